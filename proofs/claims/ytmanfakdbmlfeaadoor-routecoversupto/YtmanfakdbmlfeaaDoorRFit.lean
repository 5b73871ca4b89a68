
/- Stage 18: can the parts be laid over the words? The program's. -/
import Derived.Test.YtmanfakdbmlfeaaDoorRPat
import Derived.Deep.RegionHeld
namespace Go.Proofs.YtmanfakdbmlfeaaDoor
open Go.RowKit
set_option linter.unusedVariables false
set_option linter.unusedSimpArgs false
/-- a list of texts as a value: where its places lie -/
def Tl (w : World) (v : Value) (l : List ByteArray) : Prop := ∃ g off c, v = .slice (some ⟨g, off, none⟩) l.length c ∧ l.length ≤ c ∧ c ≤ maxLen ∧ Tx w g off l
theorem Tl.keep {w w' : World} {v : Value} {l : List ByteArray} (h : Tl w v l) (hb : Below w.heap.size w w') : Tl w' v l := by
  obtain ⟨g, off, c, h1, h2, h3, h4⟩ := h
  exact ⟨g, off, c, h1, h2, h3, h4.keep hb h4.1⟩
theorem Tl.drew {w : World} {v : Value} {l : List ByteArray} (h : Tl w v l) : Tl w.drew v l := h.keep (Below.refl _ _).drew
theorem Tl.tail1 {w : World} {g o c : Nat} {x : ByteArray} {l : List ByteArray} (h1 : l.length + 1 ≤ c) (h3 : c ≤ maxLen) (h : Tx w g o (x :: l)) : Tl w (.slice (some ⟨g, o + 1, none⟩) l.length (c - 1)) l := ⟨g, o + 1, c - 1, rfl, by omega, by omega, h.tail⟩
theorem Tl.tail0 {w : World} {g o c : Nat} {x : ByteArray} {l : List ByteArray} (h1 : l.length + 1 ≤ c) (h : Tx w g o (x :: l)) (hc : c - 1 = 0) : Tl w (.slice (some ⟨g, o, none⟩) l.length 0) l := by
  obtain rfl : l = [] := List.eq_nil_of_length_eq_zero (by omega)
  exact ⟨g, o, 0, rfl, by simp, Nat.zero_le _, h.1, fun i y hy => by simp at hy⟩
theorem Tl.tails {w : World} {g o c : Nat} {x : ByteArray} {l : List ByteArray} (h1 : l.length + 1 ≤ c) (h3 : c ≤ maxLen) (h : Tx w g o (x :: l)) (w1 : World) (hb : Below w.heap.size w w1) (v : Value) (hv : v = .slice (some ⟨g, o + 1, none⟩) l.length (c - 1) ∨ (c - 1 = 0 ∧ v = .slice (some ⟨g, o, none⟩) l.length 0)) : Tl w1 v l := by
  rcases hv with rfl | ⟨h0, rfl⟩
  · exact (Tl.tail1 h1 h3 h).keep hb
  · exact (Tl.tail0 h1 h h0).keep hb
/-- what is to be shown of a pattern and a topic -/
def FitOk (p t : List ByteArray) : Prop := ∀ (w : World) (vp vt : Value), Tl w vp p → Tl w vt t → Calls Tryd.prog 23 #[vp, vt] w fun e w' => e = .returned (.bool (fitP p t)) ∧ Below w.heap.size w w'
set_option maxHeartbeats 1000000 in
theorem fits_nil (t : List ByteArray) : FitOk [] t := by
  intro w vp vt hp ht
  obtain ⟨g, o, c, rfl, hc, hc9, hx⟩ := hp
  obtain ⟨g', o', c', rfl, hc', hc9', hx'⟩ := ht
  clear hx hx'
  cases t with
  | nil =>
    go_enter Tryd.func23, Tryd.ntmps23
    go_wp2
    go_ret
    exact ⟨rfl, Below.refl _ _⟩
  | cons y ys =>
    go_enter Tryd.func23, Tryd.ntmps23
    go_wp2
    go_ret
    exact ⟨by first | rfl | (simp [fit_nil]; omega), Below.refl _ _⟩
set_option maxHeartbeats 1000000 in
theorem fits_one_nil {x : ByteArray} (h1 : x ≠ bHash) (xs : List ByteArray) : FitOk (x :: xs) [] := by
  intro w vp vt hp ht
  obtain ⟨g, o, c, rfl, hc, hc9, hx⟩ := hp
  obtain ⟨g', o', c', rfl, hc', hc9', hx'⟩ := ht
  have hcell := hx.2 0 x rfl
  rw [Nat.add_zero] at hcell
  clear hx hx'
  rw [List.length_cons] at hc ⊢
  have e1 : (x.toList == [35]) = false := by rw [hash_eq]; simpa using h1
  have HF : Hid (fitP (x :: xs) [] = false) := fit_one_nil h1 xs
  clear h1
  go_enter Tryd.func23, Tryd.ntmps23
  go_wp2
  go_ret
  exact ⟨by rw [HF.out]; rfl, Below.refl _ _⟩
set_option maxHeartbeats 2000000 in
theorem fits_hash_nil {x : ByteArray} (h1 : x = bHash) (xs : List ByteArray) (IH : Hid (FitOk xs [])) : FitOk (x :: xs) [] := by
  intro w vp vt hp ht
  have HTT := hide ht
  obtain ⟨g, o, c, rfl, hc, hc9, hx⟩ := hp
  obtain ⟨g', o', c', rfl, hc', hc9', hx'⟩ := ht
  have hcell := hx.2 0 x rfl
  rw [Nat.add_zero] at hcell
  rw [List.length_cons] at hc ⊢
  have HX : Hid (∀ (w1 : World) (hb : Below w.heap.size w w1) (v : Value), (v = .slice (some ⟨g, o + 1, none⟩) xs.length (c - 1) ∨ (c - 1 = 0 ∧ v = .slice (some ⟨g, o, none⟩) xs.length 0)) → Tl w1 v xs) := Tl.tails hc hc9 hx
  clear hx hx'
  have e1 : (x.toList == [35]) = true := by rw [hash_eq]; simpa using h1
  have HF : Hid (fitP (x :: xs) [] = fitP xs []) := by subst h1; exact fit_hash_nil xs
  clear h1
  go_enter Tryd.func23, Tryd.ntmps23
  go_wp2_with fail
  all_goals
    refine (IH.out w _ _ (HX.out _ (Below.refl _ _) _ (by first | exact .inl rfl | exact .inr ⟨by omega, rfl⟩)) HTT.out).mono ?_
    rintro e w1 ⟨rfl, hb1⟩
    cases hf : fitP xs []
    · have HG := hide hf
      clear hf
      go_wp2
      go_ret
      exact ⟨by rw [HF.out, HG.out]; rfl, hb1⟩
    · have HG := hide hf
      clear hf
      go_wp2
      go_ret
      exact ⟨by rw [HF.out, HG.out]; rfl, hb1⟩
set_option maxHeartbeats 2000000 in
theorem fits_hash_cons {x : ByteArray} (h1 : x = bHash) (xs : List ByteArray) (y : ByteArray) (ys : List ByteArray) (IH : Hid (FitOk xs (y :: ys))) (IH2 : Hid (FitOk (x :: xs) ys)) : FitOk (x :: xs) (y :: ys) := by
  intro w vp vt hp ht
  obtain ⟨g, o, c, rfl, hc, hc9, hx⟩ := hp
  obtain ⟨g', o', c', rfl, hc', hc9', hx'⟩ := ht
  have HPP : Hid (∀ (w1 : World) (hb : Below w.heap.size w w1) (k : Nat), k = c → Tl w1 (.slice (some ⟨g, o, none⟩) (xs.length + 1) k) (x :: xs)) := fun w1 hb k e => by subst e; exact Tl.keep ⟨g, o, k, rfl, hc, hc9, hx⟩ hb
  have HTT : Hid (Tl w (.slice (some ⟨g', o', none⟩) (ys.length + 1) c') (y :: ys)) := ⟨g', o', c', rfl, hc', hc9', hx'⟩
  have hcell := hx.2 0 x rfl
  rw [Nat.add_zero] at hcell
  rw [List.length_cons] at hc hc' ⊢
  have HX : Hid (∀ (w1 : World) (hb : Below w.heap.size w w1) (v : Value), (v = .slice (some ⟨g, o + 1, none⟩) xs.length (c - 1) ∨ (c - 1 = 0 ∧ v = .slice (some ⟨g, o, none⟩) xs.length 0)) → Tl w1 v xs) := Tl.tails hc hc9 hx
  have HY : Hid (∀ (w1 : World) (hb : Below w.heap.size w w1) (v : Value), (v = .slice (some ⟨g', o' + 1, none⟩) ys.length (c' - 1) ∨ (c' - 1 = 0 ∧ v = .slice (some ⟨g', o', none⟩) ys.length 0)) → Tl w1 v ys) := Tl.tails hc' hc9' hx'
  clear hx hx'
  have e1 : (x.toList == [35]) = true := by rw [hash_eq]; simpa using h1
  have HF : Hid (fitP (x :: xs) (y :: ys) = (fitP xs (y :: ys) || fitP (x :: xs) ys)) := by subst h1; exact fit_hash_cons xs y ys
  clear h1
  go_enter Tryd.func23, Tryd.ntmps23
  go_wp2_with fail
  all_goals
    refine (IH.out w _ _ (HX.out _ (Below.refl _ _) _ (by first | exact .inl rfl | exact .inr ⟨by omega, rfl⟩)) HTT.out).mono ?_
    rintro e w1 ⟨rfl, hb1⟩
    have HB1 := hide hb1
    clear hb1
    cases hf : fitP xs (y :: ys)
    · have HG := hide hf
      clear hf
      go_wp2_with fail
      all_goals
        refine (IH2.out w1 _ _ (HPP.out _ HB1.out _ (by omega)) (HY.out _ HB1.out _ (by first | exact .inl rfl | exact .inr ⟨by omega, rfl⟩))).mono ?_
        rintro e w2 ⟨rfl, hb2⟩
        cases hf2 : fitP (x :: xs) ys
        · have HG2 := hide hf2
          clear hf2
          go_wp2
          go_ret
          exact ⟨by rw [HF.out, HG.out, HG2.out]; rfl, belOn HB1.out HB1.out.size hb2⟩
        · have HG2 := hide hf2
          clear hf2
          go_wp2
          go_ret
          exact ⟨by rw [HF.out, HG.out, HG2.out]; rfl, belOn HB1.out HB1.out.size hb2⟩
    · have HG := hide hf
      clear hf
      go_wp2
      go_ret
      exact ⟨by rw [HF.out, HG.out]; rfl, HB1.out⟩
end Go.Proofs.YtmanfakdbmlfeaaDoor
