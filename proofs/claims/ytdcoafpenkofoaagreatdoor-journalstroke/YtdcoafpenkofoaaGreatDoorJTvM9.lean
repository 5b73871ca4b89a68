import Derived.Test.YtdcoafpenkofoaaGreatDoorJTmM9
import Derived.Test.YtdcoafpenkofoaaGreatDoorJAdcM9
import Derived.Test.YtdcoafpenkofoaaGreatDoorJWthM9
import Derived.Test.YtdcoafpenkofoaaGreatDoorJLivM9

/- Stage 20: JournalTurned: the state of its first loop. -/
namespace Go.Proofs.YtdcoafpenkofoaaGreatDoor
open Go.RowKit
set_option linter.unusedVariables false
set_option linter.unusedSimpArgs false
theorem bodN_wg (L : List (List Nat)) : bodN L ≤ wgN L ∧ L.length ≤ wgN L := by
  induction L with
  | nil => exact ⟨Nat.le_refl _, Nat.le_refl _⟩
  | cons r L ih => simp only [bodN, wgN, List.map_cons, List.sum_cons, List.length_cons] at ih ⊢; omega
theorem wgA_mem {M : List (List (List Nat))} {m : List (List Nat)} (h : m ∈ M) : wgN m ≤ wgA M := by
  induction M with
  | nil => cases h
  | cons x M ih =>
    simp only [wgA, List.map_cons, List.sum_cons] at ih ⊢
    rcases List.mem_cons.1 h with rfl | h
    · omega
    · have := ih h; omega
theorem wgA_len (M : List (List (List Nat))) : M.length ≤ wgA M := by
  induction M with
  | nil => exact Nat.le_refl _
  | cons x M ih => simp only [wgA, List.map_cons, List.sum_cons, List.length_cons] at ih ⊢; omega
theorem batN_wg (L : List (List Nat)) : batN L ≤ 12 + wgN L := by
  have := (bodN_wg L).1
  unfold batN
  split <;> omega
/-- the places behind batches -/
def endsN (M : List (List (List Nat))) : List Int := (List.range M.length).map fun k => ((logN (M.take (k + 1)) : Nat) : Int)
theorem endsN_len (M : List (List (List Nat))) : (endsN M).length = M.length := by simp [endsN]
theorem endsN_get (M : List (List (List Nat))) (k : Nat) (h : k < (endsN M).length) : (endsN M)[k] = ((logN (M.take (k + 1)) : Nat) : Int) := by simp [endsN]
theorem logN_snoc (M : List (List (List Nat))) (L : List (List Nat)) : logN (M ++ [L]) = logN M + batN L := by simp [logN]
theorem logB_snoc (M : List (List (List Nat))) (L : List (List Nat)) : logB (M ++ [L]) = logB M ++ batB L := by simp [logB]
theorem endsN_snoc (M : List (List (List Nat))) (L : List (List Nat)) : endsN (M ++ [L]) = endsN M ++ [((logN (M ++ [L]) : Nat) : Int)] := by
  unfold endsN
  rw [List.length_append, List.length_singleton, List.range_succ, List.map_append]
  congr 1
  · refine List.map_congr_left fun k hk => ?_
    have := List.mem_range.1 hk
    rw [List.take_append_of_le_length (by omega)]
  · simp only [List.map_cons, List.map_nil]
    rw [List.take_of_length_le (by simp)]
theorem RdB.byte {w : World} {a : Option Addr} {L : List (List Nat)} (h : RdB w a L) : ∀ r ∈ L, ∀ c ∈ r, c < 256 := fun r hr c hc => by
  obtain ⟨j, hj, rfl⟩ := List.getElem_of_mem hr
  obtain ⟨b, off, _, _, h1⟩ := h (by omega)
  obtain ⟨x, cx, _, a', c', e, _, _, h4⟩ := h1 j hj
  exact h4.2.1 c hc
theorem GdB.of {w : World} {a : Option Addr} {L : List (List Nat)} (hr : RdB w a L) (hb : L.any badR = false) (hn : batN L ≤ 16777216) (h0 : L ≠ []) : GdB L := by
  refine ⟨h0, fun r h => ?_, ?_, hr.byte⟩
  · have := List.any_eq_false.1 hb r h
    simp only [badR, Bool.or_eq_true, decide_eq_true_eq] at this
    omega
  · unfold batN at hn
    rw [if_neg h0] at hn
    omega
/-- what stands at the loop's rounds -/
def LI (w : World) (d j : Nat) (k : Nat) (wv ev : Value) (wr : World) : Prop := ∃ S Z, JC S w wr d j (logB (Z.map (·.1))) ∧ (∀ m ∈ Z.map (·.1), GdB m) ∧ Z.length ≤ k ∧ RdQ w Z ∧ Wy CK wr w.heap.size wv Z ∧ (∀ g, wv.ownBlock = some g → ¬ (S g ∨ g = j)) ∧ Wy IK wr w.heap.size ev (endsN (Z.map (·.1))) ∧ (∀ g, ev.ownBlock = some g → ¬ (S g ∨ g = j))
theorem JC.other {S : Nat → Prop} {w wi w' : World} {d j : Nat} {l : List Nat} (h : JC S w wi d j l) (hk : ∀ q, (S q ∨ q = j) → w'.heap[q]? = wi.heap[q]?) (hb : Below w.heap.size w w') (hz : wi.heap.size ≤ w'.heap.size) : JC S w w' d j l := by
  obtain ⟨x, F, h1, h2⟩ := h
  exact ⟨x, F, ⟨⟨fun k hk' => ⟨(h1.aw.at_ k hk').1, Nat.lt_of_lt_of_le (h1.aw.at_ k hk').2 hz⟩, ⟨h1.aw.dd.dsk.keepB (fun k hk' => hk k (.inl hk')), h1.aw.dd.lk, h1.aw.dd.ok⟩, hb⟩, h1.nj, h1.lo, (hk j (.inr rfl)).trans h1.blk⟩, h2⟩
/-- a row of the call's stays behind a call of the journal's -/
theorem Wy.kp {A : Type} {K : WK A} {w wi w' : World} {S : Nat → Prop} {v : Value} {W : List A} (h : Wy K wi w.heap.size v W) (hk : Kp S wi w') (hn : ∀ g, v.ownBlock = some g → ¬ S g) : Wy K w' w.heap.size v W :=
  h.at fun k e => hk.block (h.lt e).2 (hn k e)
def LX (S : Nat → Prop) (Z : List Bq) (w : World) (d j k : Nat) (wv ev : Value) (wr : World) : Prop := JC S w wr d j (logB (Z.map (·.1))) ∧ (∀ m ∈ Z.map (·.1), GdB m) ∧ Z.length ≤ k ∧ RdQ w Z ∧ Wy CK wr w.heap.size wv Z ∧ (∀ g, wv.ownBlock = some g → ¬ (S g ∨ g = j)) ∧ Wy IK wr w.heap.size ev (endsN (Z.map (·.1))) ∧ (∀ g, ev.ownBlock = some g → ¬ (S g ∨ g = j))
theorem li_skip {S S4 : Nat → Prop} {Z : List Bq} {w wr w4 : World} {d j k : Nat} {wv ev : Value} (HX : LX S Z w d j k wv ev wr) (HK : (∀ q, S4 q → S q ∨ wr.heap.size ≤ q) ∧ Kp (fun k => S k ∨ k = j) wr w4) (hJ4 : JC S4 w w4 d j (logB (Z.map (·.1)))) : LI w d j (k + 1) wv ev w4 := by
  obtain ⟨h1, h2, h3, h4, h5, h6, h7, h8⟩ := HX
  have hn : ∀ g, g < wr.heap.size → ¬ (S g ∨ g = j) → ¬ (S4 g ∨ g = j) := fun g hg hs h => h.elim (fun h => (HK.1 g h).elim (fun h => hs (.inl h)) (fun h => by omega)) (fun h => hs (.inr h))
  exact ⟨S4, Z, hJ4, h2, by omega, h4, h5.kp HK.2 h6, fun g e => hn g (h5.lt e).2 (h6 g e), h7.kp HK.2 h8, fun g e => hn g (h7.lt e).2 (h8 g e)⟩
theorem li_next {S S4 : Nat → Prop} {Z : List Bq} {w wr w4 w5 w7 : World} {d j k : Nat} {wv ev v5 v7 : Value} {K : List (List Nat)} {x : Option Addr} {cx : Nat} {o : Obj} (HX : LX S Z w d j k wv ev wr) (HK : (∀ q, S4 q → S q ∨ wr.heap.size ≤ q) ∧ Kp (fun k => S k ∨ k = j) wr w4) (hJ4 : JC S4 w w4 d j (logB (Z.map (·.1)) ++ batB K))
    (hg : GdB K) (hr : RdB w x K) (hb5 : Below w4.heap.size w4 w5) (hw5 : Wy CK w5 w4.heap.size v5 (Z ++ [(K, .slice x K.length cx)])) (hw7 : Wy IK w7 w.heap.size v7 (endsN (Z.map (·.1)) ++ [((logB (Z.map (·.1)) ++ batB K).length : Int)]))
    (hg7 : (w5.alloc o).grownBy w7 ev.ownBlock) (hs7 : (∃ g off cap, ev = .slice (some ⟨g, off, none⟩) (endsN (Z.map (·.1))).length cap ∧ v7 = .slice (some ⟨g, off, none⟩) ((endsN (Z.map (·.1))).length + 1) cap) ∨ ((∀ k, v7.ownBlock = some k → (w5.alloc o).heap.size ≤ k) ∧ (w5.alloc o).grownBy w7 none)) : LI w d j (k + 1) v5 v7 w7 := by
  obtain ⟨h1, h2, h3, h4, h5, h6, h7, h8⟩ := HX
  have hn : ∀ g, g < wr.heap.size → ¬ (S g ∨ g = j) → ¬ (S4 g ∨ g = j) := fun g hg hs h => h.elim (fun h => (HK.1 g h).elim (fun h => hs (.inl h)) (fun h => by omega)) (fun h => hs (.inr h))
  have z4 := HK.2.size
  have z5 := hb5.size
  have hJ5 := hJ4.below hb5
  have hat := hJ5.at
  have hJ6 := hJ5.below (bel1 (Below.refl _ _) (Nat.le_refl _) o)
  have hzw := h1.bel.size
  have e7 : ∀ g, ev.ownBlock = some g → w.heap.size ≤ g ∧ g < wr.heap.size := fun g e => h7.lt e
  have hnq : ∀ q, (S4 q ∨ q = j) → some q ≠ ev.ownBlock := fun q hq e => hn q (e7 q e.symm).2 (h8 q e.symm) hq
  have hJ7 : JC S4 w w7 d j (logB (Z.map (·.1)) ++ batB K) := hJ6.other (fun q hq => hg7.block q (by simp; have := (hat q hq).2; omega) (hnq q hq)) (hJ6.bel.grown hg7 (by simp; omega) (fun q hq => (e7 q hq).1)) hg7.size
  refine ⟨S4, Z ++ [(K, .slice x K.length cx)], ?_, ?_, ?_, h4.snoc hr, ?_, ?_, ?_, ?_⟩
  · rw [List.map_append, List.map_singleton, logB_snoc]; exact hJ7
  · intro m hm
    rw [List.map_append, List.mem_append] at hm
    rcases hm with hm | hm
    · exact h2 m hm
    · rw [List.map_singleton, List.mem_singleton] at hm; rw [hm]; exact hg
  · rw [List.length_append, List.length_singleton]; omega
  · refine (hw5.at fun q e => ?_).mono (by omega)
    have hq := hw5.lt e
    refine (hg7.block q (by simp; omega) (fun e' => by have := (e7 q e'.symm).2; omega)).trans ?_
    exact (bel1 (Below.refl _ _) (Nat.le_refl _) o : Below w5.heap.size w5 _).block q hq.2
  · intro q e hq
    have h9 := hw5.lt e
    have := (hJ4.at q hq).2
    omega
  · rw [List.map_append, List.map_singleton, endsN_snoc, ← logB_len, logB_snoc]; exact hw7
  · intro q e hq
    have h9 := (hat q hq).2
    rcases hs7 with ⟨g, off, cap, e1, e2⟩ | ⟨h10, _⟩
    · rw [e2] at e
      cases e
      exact hn _ (e7 _ (by rw [e1]; rfl)).2 (h8 _ (by rw [e1]; rfl)) hq
    · have := h10 q e
      rw [World.size_alloc] at this
      omega
/-- a byte of an own row, and the row with it turned -/
theorem ob_turned {B : Nat} {w : World} {g c : Nat} {l : List Nat} (h : Ob B w (.slice (some ⟨g, 0, none⟩) l.length c) l) {P : Nat} (hP : P < l.length) : w.cell? ⟨g, P, none⟩ = some (.int .u8 ((l.getD P 0 : Nat) : Int)) ∧ (∀ o, w.frozen? ⟨g, o, none⟩ = false) ∧ B ≤ g ∧ l.getD P 0 < 256 ∧ ∀ X, X < 256 → Rd (w.setCell ⟨g, P, none⟩ (.int .u8 ((l.getD P 0 ^^^ X : Nat) : Int))) (some ⟨g, 0, none⟩) l.length (turn l P X) := by
  have hr : Rd w (some ⟨g, 0, none⟩) l.length l := by
    obtain ⟨a', c', e, _, _, hr⟩ := h.rb
    simp only [Value.slice.injEq] at e
    obtain ⟨rfl, _, rfl⟩ := e
    exact hr
  obtain ⟨b, off, e, hlt, hc⟩ := hr.2.2 (by omega)
  simp only [Option.some.injEq, Addr.mk.injEq, and_true] at e
  obtain ⟨rfl, rfl⟩ := e
  have hcP : w.cell? ⟨g, P, none⟩ = some (.int .u8 ((l.getD P 0 : Nat) : Int)) := by have := hc P hP; rwa [Nat.zero_add] at this
  have hb : l.getD P 0 < 256 := by
    rw [List.getD_eq_getElem?_getD, List.getElem?_eq_getElem hP]
    exact h.2 _ (List.getElem_mem hP)
  refine ⟨hcP, fun o => ?_, (h.lt g rfl).1, hb, fun X hX => ⟨turn_len l P X, turn_lt h.2 P hX, fun _ => ⟨g, 0, rfl, by simpa using hlt, fun j hj => ?_⟩⟩⟩
  · rcases h.1.2 with ⟨e, _⟩ | ⟨g', cap, cur, e, _, hg, _⟩
    · cases e
    · simp only [Value.slice.injEq, Option.some.injEq, Addr.mk.injEq, true_and, and_true] at e
      obtain ⟨rfl, _⟩ := e
      exact frozen_of hg o
  · rw [Nat.zero_add]
    by_cases hjP : j = P
    · subst hjP
      rw [World.cell?_setCell_same _ _ _ hcP]
      unfold turn
      simp [List.getD_eq_getElem?_getD, hj]
    · rw [World.cell?_setCell_other _ _ _ _ (by intro h; simp only [Addr.mk.injEq] at h; omega)]
      have := hc j hj
      rw [Nat.zero_add] at this
      rw [this]
      unfold turn
      rw [List.getD_eq_getElem?_getD, List.getD_eq_getElem?_getD, List.getElem?_set_ne (fun h => hjP h.symm)]
theorem wl_all (M : List (List (List Nat))) (h : ∀ m ∈ M, GdB m) : wl (logB M) = (M, logN M, 0) := by
  have := wl_log M [] h
  rw [List.append_nil] at this
  rw [this, wl_nil rfl]
  simp
theorem scn_whole {M : List (List (List Nat))} (h : ∀ m ∈ M, GdB m) {t : Nat} (ht : t ≤ (logB M).length) : scn (logB M) (t : Int) = (M, (logB M).length, 0) := by
  unfold scn
  rw [wl_all M h, if_neg (by omega), if_neg (by simp), logB_len]
theorem scn_turn {M : List (List (List Nat))} (h : ∀ m ∈ M, GdB m) {a p x t : Nat} (ha : a < M.length) (h1 : logN (M.take a) ≤ p) (h2 : p < logN (M.take (a + 1))) (hx : x < 256) (h0 : x ≠ 0) (ht : t ≤ (logB M).length) :
    scn (turn (logB M) p x) (t : Int) = if logN (M.take a) < t then ([], logN (M.take a), 201) else (M.take a, logN (M.take a), 0) := by
  unfold scn
  rw [wl_turn M h a p x ha h1 h2 hx h0, turn_len, if_neg (by omega)]
  by_cases hh : logN (M.take a) < t
  · rw [if_pos hh, if_pos ⟨by show ((logN (M.take a) : Nat) : Int) < _; omega, Nat.le_refl _⟩]
  · rw [if_neg hh, if_neg (fun h9 => hh (by have : ((logN (M.take a) : Nat) : Int) < (t : Int) := h9.1; omega))]
theorem RdL.takeL {w : World} {a : Option Addr} {M : List (List (List Nat))} (h : RdL w a M) (k : Nat) : RdL w a (M.take k) := fun h0 => by
  rw [List.length_take] at h0
  obtain ⟨b, off, e, hlt, hc⟩ := h (by omega)
  refine ⟨b, off, e, hlt, fun j hj => ?_⟩
  rw [List.length_take] at hj
  obtain ⟨x, c, h1, h2⟩ := hc j (by omega)
  simp only [List.getElem_take]
  exact ⟨x, c, h1, h2⟩
end Go.Proofs.YtdcoafpenkofoaaGreatDoor


/- Stage 20: JournalTails: the state of its loop. -/
namespace Go.Proofs.YtdcoafpenkofoaaGreatDoor
open Go.RowKit
set_option linter.unusedVariables false
set_option linter.unusedSimpArgs false
def LU (S : Nat → Prop) (Z : List Bq) (w : World) (d j k : Nat) (wv : Value) (wr : World) : Prop := JC S w wr d j (logB (Z.map (·.1))) ∧ (∀ m ∈ Z.map (·.1), GdB m) ∧ Z.length ≤ k ∧ RdQ w Z ∧ Wy CK wr w.heap.size wv Z ∧ (∀ g, wv.ownBlock = some g → ¬ (S g ∨ g = j))
/-- what stands at the loop's rounds -/
def LV (w : World) (d j k : Nat) (wv : Value) (wr : World) : Prop := ∃ S Z, LU S Z w d j k wv wr
section
variable {S S4 : Nat → Prop} {Z : List Bq} {w wr w4 w5 : World} {d j k : Nat} {wv v5 : Value} {K : List (List Nat)} {x : Option Addr} {cx : Nat}
theorem lu_kept (HX : LU S Z w d j k wv wr) (HK : (∀ q, S4 q → S q ∨ wr.heap.size ≤ q) ∧ Kp (fun k => S k ∨ k = j) wr w4) (hJ4 : JC S4 w w4 d j (logB (Z.map (·.1)))) : LU S4 Z w d j k wv w4 := by
  obtain ⟨h1, h2, h3, h4, h5, h6⟩ := HX
  have hn : ∀ g, g < wr.heap.size → ¬ (S g ∨ g = j) → ¬ (S4 g ∨ g = j) := fun g hg hs h => h.elim (fun h => (HK.1 g h).elim (fun h => hs (.inl h)) (fun h => by omega)) (fun h => hs (.inr h))
  exact ⟨hJ4, h2, h3, h4, h5.kp HK.2 h6, fun g e => hn g (h5.lt e).2 (h6 g e)⟩
theorem LU.up (h : LU S Z w d j k wv wr) {n : Nat} (hn : k ≤ n) : LU S Z w d j n wv wr := ⟨h.1, h.2.1, Nat.le_trans h.2.2.1 hn, h.2.2.2.1, h.2.2.2.2.1, h.2.2.2.2.2⟩
theorem LU.bel (h : LU S Z w d j k wv wr) (hb : Below wr.heap.size wr w5) : LU S Z w d j k wv w5 := ⟨h.1.below hb, h.2.1, h.2.2.1, h.2.2.2.1, h.2.2.2.2.1.at (fun q e => hb.block q (h.2.2.2.2.1.lt e).2), h.2.2.2.2.2⟩
theorem lv_next (HX : LU S Z w d j k wv wr) (HK : (∀ q, S4 q → S q ∨ wr.heap.size ≤ q) ∧ Kp (fun k => S k ∨ k = j) wr w4) (hJ4 : JC S4 w w4 d j (logB (Z.map (·.1)) ++ batB K)) (hg : K ≠ [] → GdB K) (hr : RdB w x K) (hb5 : Below w4.heap.size w4 w5) (hw5 : Wy CK w5 w4.heap.size v5 (Z ++ if K = [] then [] else [(K, .slice x K.length cx)])) : LV w d j (k + 1) v5 w5 := by
  have hX := HX
  obtain ⟨h1, h2, h3, h4, h5, h6⟩ := HX
  have hJ5 := hJ4.below hb5
  have hwz := hJ4.bel.size
  have hno : ∀ q, v5.ownBlock = some q → ¬ (S4 q ∨ q = j) := fun q e hq => by
    have h9 := hw5.lt e
    have := (hJ4.at q hq).2
    omega
  by_cases h0 : K = []
  · subst h0
    rw [if_pos rfl, List.append_nil] at hw5
    rw [show batB ([] : List (List Nat)) = [] from rfl, List.append_nil] at hJ5
    exact ⟨S4, Z, hJ5, h2, by omega, h4, hw5.mono hwz, hno⟩
  · rw [if_neg h0] at hw5
    refine ⟨S4, Z ++ [(K, .slice x K.length cx)], ?_, ?_, ?_, h4.snoc hr, hw5.mono hwz, hno⟩
    · rw [List.map_append, List.map_singleton, logB_snoc]; exact hJ5
    · intro m hm
      rw [List.map_append, List.mem_append] at hm
      rcases hm with hm | hm
      · exact h2 m hm
      · rw [List.map_singleton, List.mem_singleton] at hm; rw [hm]; exact hg h0
    · rw [List.length_append, List.length_singleton]; omega
end
end Go.Proofs.YtdcoafpenkofoaaGreatDoor
