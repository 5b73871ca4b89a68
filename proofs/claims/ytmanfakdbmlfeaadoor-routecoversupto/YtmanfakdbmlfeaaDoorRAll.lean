
/- Stage 18: fitsAll: every topic that goes on so. -/
import Derived.Test.YtmanfakdbmlfeaaDoorRWay
namespace Go.Proofs.YtmanfakdbmlfeaaDoor
open Go.RowKit
set_option linter.unusedVariables false
set_option linter.unusedSimpArgs false
def faF (a : List ByteArray) : Nat → List ByteArray → List ByteArray → Bool
  | 0, _, _ => true
  | _ + 1, u, [] => decide (8 < u.length) || (u.isEmpty || fitP a u)
  | n + 1, u, p :: b => decide (8 < u.length) || (if p = bHash then faF a n u b && faF a n (u ++ [bStar]) (p :: b) else faF a n (u ++ [p]) b)
theorem faF_iff (a : List ByteArray) : ∀ (n : Nat) (u b : List ByteArray), b.length + (9 - u.length) < n → (faF a n u b = true ↔ FA a u b)
  | 0, _, _, h => absurd h (by omega)
  | n + 1, u, [], _ => by
    by_cases hl : 8 < u.length
    · exact ⟨fun _ => FA.long hl, fun _ => by rw [faF]; simp [hl]⟩
    · rw [faF, decide_eq_false hl, Bool.false_or, fa_nil (by omega), Bool.or_eq_true, List.isEmpty_iff]
  | n + 1, u, p :: b, h => by
    by_cases hl : 8 < u.length
    · exact ⟨fun _ => FA.long hl, fun _ => by rw [faF]; simp [hl]⟩
    · rw [faF, decide_eq_false hl, Bool.false_or]
      rw [List.length_cons] at h
      by_cases hp : p = bHash
      · subst hp
        rw [if_pos rfl, Bool.and_eq_true, faF_iff a n u b (by omega), faF_iff a n (u ++ [bStar]) (bHash :: b) (by rw [List.length_append, List.length_cons, List.length_singleton]; omega)]
        exact fa_hash.symm
      · rw [if_neg hp, faF_iff a n (u ++ [p]) b (by rw [List.length_append, List.length_singleton]; omega)]
        exact (fa_one hp).symm
def faB (a u b : List ByteArray) : Bool := faF a (b.length + (9 - u.length) + 1) u b
theorem faB_iff {a u b : List ByteArray} : faB a u b = true ↔ FA a u b := by unfold faB; exact faF_iff a _ u b (by omega)
theorem faB_long {a u b : List ByteArray} (h : 8 < u.length) : faB a u b = true := faB_iff.2 (FA.long h)
theorem faB_nil0 (a : List ByteArray) : faB a [] [] = true := faB_iff.2 ((fa_nil (by simp)).2 (.inl rfl))
theorem faB_nil {a u : List ByteArray} (h : u.length ≤ 8) (hn : u ≠ []) : faB a u [] = fitP a u := by
  rw [Bool.eq_iff_iff, faB_iff, fa_nil h]
  exact ⟨fun h => h.resolve_left hn, .inr⟩
theorem faB_hash (a u b : List ByteArray) : faB a u (bHash :: b) = (faB a u b && faB a (u ++ [bStar]) (bHash :: b)) := by
  rw [Bool.eq_iff_iff, Bool.and_eq_true, faB_iff, faB_iff, faB_iff]
  exact fa_hash
theorem faB_one (a u b : List ByteArray) {p : ByteArray} (hp : p ≠ bHash) : faB a u (p :: b) = faB a (u ++ [p]) b := by
  rw [Bool.eq_iff_iff, faB_iff, faB_iff]
  exact fa_one hp
/-- a list of texts that lies below -/
def Tb (w : World) (base : Nat) (v : Value) (l : List ByteArray) : Prop := ∃ g off c, v = .slice (some ⟨g, off, none⟩) l.length c ∧ l.length ≤ c ∧ c ≤ maxLen ∧ g < base ∧ Tx w g off l
theorem Tb.tl {w : World} {base : Nat} {v : Value} {l : List ByteArray} (h : Tb w base v l) : Tl w v l := by
  obtain ⟨g, off, c, h1, h2, h3, h4, h5⟩ := h
  exact ⟨g, off, c, h1, h2, h3, h5⟩
theorem Tx.kp {w w' : World} {g off : Nat} {l : List ByteArray} (h : Tx w g off l) {S : Nat → Prop} (hk : Kp S w w') (hg : ¬ S g) : Tx w' g off l :=
  ⟨Nat.lt_of_lt_of_le h.1 hk.size, fun i x hx => (Kp.cell hk h.1 hg).trans (h.2 i x hx)⟩
theorem Tb.kp {w w' : World} {base : Nat} {v : Value} {l : List ByteArray} (h : Tb w base v l) {S : Nat → Prop} (hk : Kp S w w') (hg : ∀ k, S k → base ≤ k) : Tb w' base v l := by
  obtain ⟨g, off, c, h1, h2, h3, h4, h5⟩ := h
  exact ⟨g, off, c, h1, h2, h3, h4, h5.kp hk (fun e => by have := hg g e; omega)⟩
theorem Tb.tails {w : World} {base g o c : Nat} {x : ByteArray} {l : List ByteArray} (h1 : l.length + 1 ≤ c) (h3 : c ≤ maxLen) (hg : g < base) (h : Tx w g o (x :: l)) (v : Value) (hv : v = .slice (some ⟨g, o + 1, none⟩) l.length (c - 1) ∨ (c - 1 = 0 ∧ v = .slice (some ⟨g, o, none⟩) l.length 0)) : Tb w base v l := by
  rcases hv with rfl | ⟨h0, rfl⟩
  · exact ⟨g, o + 1, c - 1, rfl, by omega, by omega, hg, h.tail⟩
  · obtain rfl : l = [] := List.eq_nil_of_length_eq_zero (by omega)
    exact ⟨g, o, 0, rfl, by simp, Nat.zero_le _, hg, h.1, fun i y hy => by simp at hy⟩
/-- what is to be shown of fitsAll -/
def FaOk (a u b : List ByteArray) : Prop := ∀ (w : World) (base : Nat) (va vu vb : Value), base ≤ w.heap.size → Tb w base va a → Wy SK w base vu u → Tb w base vb b → Calls Tryd.prog 28 #[va, vu, vb] w fun e w' => e = .returned (.bool (faB a u b)) ∧ Wy SK w' base vu u ∧ Kp (fun k => vu.ownBlock = some k) w w'
theorem wy_pre {w : World} {base : Nat} {vu v' : Value} {u : List ByteArray} {x : ByteArray} {k : Nat} (w0 : World) (h0 : Wy SK w0 base vu u) (h : Wy SK w base v' (u ++ [x])) (e : vu.ownBlock = some k) (hv : ∃ g off cap, vu = .slice (some ⟨g, off, none⟩) u.length cap ∧ v' = .slice (some ⟨g, off, none⟩) (u.length + 1) cap) : Wy SK w base vu u := by
  obtain ⟨g, off, cap, rfl, rfl⟩ := hv
  rcases h with ⟨e1, _⟩ | ⟨g', off', cap', cur, e1, h1, h2, h3, h4, h5, h6⟩
  · cases e1
  · simp only [Value.slice.injEq, Option.some.injEq, Addr.mk.injEq] at e1
    obtain ⟨⟨rfl, rfl, _⟩, _, rfl⟩ := e1
    refine .inr ⟨g, off, cap, cur, rfl, h1, by rw [List.length_append] at h2; simp at h2; omega, h3, h4, h5, fun j v hv => h6 j v ?_⟩
    rw [List.flatMap_append]
    rw [List.getElem?_append_left (List.getElem?_eq_some_iff.1 hv).1]
    exact hv
theorem fa_push {w1 w2 w3 : World} {o : Obj} {base : Nat} {vu v' : Value} {u : List ByteArray} {x : ByteArray} (h0 : Wy SK w1 base vu u) (hg : (w1.alloc o).grownBy w2 vu.ownBlock)
    (hs : (∃ g off cap, vu = .slice (some ⟨g, off, none⟩) u.length cap ∧ v' = .slice (some ⟨g, off, none⟩) (u.length + 1) cap) ∨ ((∀ k, v'.ownBlock = some k → (w1.alloc o).heap.size ≤ k) ∧ (w1.alloc o).grownBy w2 none))
    (h : Wy SK w3 base v' (u ++ [x])) (hk : Kp (fun k => v'.ownBlock = some k) w2 w3) : Wy SK w3 base vu u ∧ Kp (fun k => vu.ownBlock = some k) w1 w3 := by
  have k1 : Kp (fun k => vu.ownBlock = some k) w1 w2 := ((Kp.refl _ _).alloc o).grown hg (fun j e => .inl e)
  have hal : (w1.alloc o).heap.size = w1.heap.size + 1 := by simp
  rcases hs with ⟨g, off, cap, e1, e2⟩ | ⟨hn, hg0⟩
  · refine ⟨wy_pre w1 h0 h (k := g) (by rw [e1]; rfl) ⟨g, off, cap, e1, e2⟩, k1.trans (hk.mono fun k e => ?_)⟩
    rw [e2] at e
    rw [e1]
    exact e
  · refine ⟨h0.at fun k e => ?_, k1.transN hk fun k e => .inr (by have := hn k e; omega)⟩
    have hlt := (h0.lt e).2
    have hsz := hg0.size
    rw [Kp.block hk (by omega) (fun e' => by have := hn k e'; omega), hg0.block k (by omega) (by simp)]
    exact Below.heap_alloc _ _ _ hlt
set_option maxHeartbeats 1000000 in
theorem fa_long {a u b : List ByteArray} (h : 8 < u.length) (hl : u.length ≤ 9) : FaOk a u b := by
  intro w base va vu vb hb ha hu hB
  have HU := hide hu
  obtain ⟨ga, oa, ca, rfl, _⟩ := ha
  obtain ⟨gb, ob, cb, rfl, _⟩ := hB
  obtain ⟨au, cu, rfl⟩ := hu.shape
  have HF : Hid (faB a u b = true) := faB_long h
  have hz : (8 : Int) < (u.length : Int) := by omega
  clear h hu
  go_enter Tryd.func28, Tryd.ntmps28
  go_wp2
  go_ret
  exact ⟨by rw [HF.out]; rfl, HU.out, Kp.refl _ _⟩
set_option maxHeartbeats 1000000 in
theorem fa_end0 {a : List ByteArray} : FaOk a [] [] := by
  intro w base va vu vb hb ha hu hB
  have HU := hide hu
  obtain ⟨ga, oa, ca, rfl, _⟩ := ha
  obtain ⟨gb, ob, cb, rfl, _⟩ := hB
  obtain ⟨au, cu, rfl⟩ := hu.shape
  have HF : Hid (faB a [] [] = true) := faB_nil0 a
  clear hu
  go_enter Tryd.func28, Tryd.ntmps28
  go_wp2
  go_ret
  exact ⟨by rw [HF.out]; rfl, HU.out, Kp.refl _ _⟩
set_option maxHeartbeats 1000000 in
theorem fa_end {a u : List ByteArray} (h : u.length ≤ 8) (hn : u ≠ []) : FaOk a u [] := by
  intro w base va vu vb hb ha hu hB
  have HU := hide hu
  obtain ⟨gu, ou, cu, rfl, hcu, hmc, htu⟩ := hu.tl hn
  have HR := hide (fits_ok a u w _ _ ha.tl ⟨gu, ou, cu, rfl, hcu, hmc, htu⟩)
  obtain ⟨ga, oa, ca, rfl, _⟩ := ha
  obtain ⟨gb, ob, cb, rfl, _⟩ := hB
  have HF : Hid (faB a u [] = fitP a u) := faB_nil h hn
  have hz : ¬ (8 : Int) < (u.length : Int) := by omega
  have h0 : u.length ≠ 0 := fun e => hn (List.eq_nil_of_length_eq_zero e)
  have hz0 : ((u.length : Int) == 0) = false := by rw [beq_eq_false_iff_ne]; omega
  clear h hu htu hn
  go_enter Tryd.func28, Tryd.ntmps28
  go_wp2_with fail
  refine HR.out.mono ?_
  rintro e w1 ⟨rfl, hb1⟩
  go_wp2
  go_ret
  exact ⟨by rw [HF.out]; rfl, HU.out.at (fun k hk => hb1.block k (HU.out.lt hk).2), Kp.ofBelow hb1⟩
end Go.Proofs.YtmanfakdbmlfeaaDoor
