/- longshoreref02's Lent. -/
import Derived.Test.YtaedlnliglmomaaDoorProg
import Derived.Test.YtaedlnliglmomaaDoorVCopy
import Derived.Test.YtaedlnliglmomaaDoorVWeigh
import Derived.WalkLawsBesides
import Derived.Handy
import Derived.Outline
namespace Go.Proofs.YtaedlnliglmomaaDoor
open Go.RowKit
set_option linter.unusedVariables false
set_option linter.unusedSimpArgs false

/-- the mark in a spare place -/
def markAt (i : Nat) : V := .of (-7) i ⟨#[]⟩ none 0 0 []
def marks (n : Nat) : List V := [markAt n, markAt (n + 1), markAt (n + 2)]

/-- a value as it was lent: each list in a block of its own, from lo up to hi, those within behind it, marks in its spare places -/
def Lent (W : World) : V → Nat → Nat → Prop :=
  V.para (fun p bs lo hi => ∃ b, lo ≤ b ∧ p.a = some ⟨b, 0, none⟩ ∧ p.c = bs.length + 3 ∧ Ok p.k p.n p.s p.c p.e bs.length ∧ Blk W b 25 ((bs.length + 3) * 5) ∧ Row W b 0 (bs.map Prod.fst ++ marks bs.length) ∧
    ∃ g : Nat → Nat, b < g 0 ∧ g bs.length ≤ hi ∧ ∀ i (h : i < bs.length), bs[i].2 (g i) (g (i + 1))) (fun _ _ => True)
theorem Lent.iff (W : World) (k n : Int) (s : ByteArray) (a : Option Addr) (c : Nat) (e : Int) (l : List V) (lo hi : Nat) :
    Lent W (V.of k n s a c e l) lo hi ↔ ∃ b, lo ≤ b ∧ a = some ⟨b, 0, none⟩ ∧ c = l.length + 3 ∧ Ok k n s c e l.length ∧ Blk W b 25 ((l.length + 3) * 5) ∧ Row W b 0 (l ++ marks l.length) ∧
      ∃ g : Nat → Nat, b < g 0 ∧ g l.length ≤ hi ∧ ∀ i (h : i < l.length), Lent W l[i] (g i) (g (i + 1)) := by
  unfold Lent
  rw [V.para_of]
  simp only [List.length_map, List.map_map, List.getElem_map]
  have h1 : ∀ f : V → Nat → Nat → Prop, (l.map (Prod.fst ∘ fun x => (x, f x))) = l := fun f => by
    conv => rhs; rw [← List.map_id l]
    rfl
  rw [h1]
/-- the bounds rise -/
theorem Lent.rise {W : World} {v : V} {lo hi : Nat} (h : Lent W v lo hi) : lo < hi := by
  refine V.ind (Q := fun v => ∀ lo hi, Lent W v lo hi → lo < hi) ?_ v lo hi h
  intro k n s a c e l ih lo hi h
  obtain ⟨b, h1, _, _, _, _, _, g, h2, h3, h4⟩ := (Lent.iff _ _ _ _ _ _ _ _ _ _).1 h
  have : ∀ i, i ≤ l.length → g 0 ≤ g i := by
    intro i
    induction i with
    | zero => intro _; exact Nat.le_refl _
    | succ i ihi =>
      intro hi
      have := ih l[i] (List.getElem_mem _) _ _ (h4 i (by omega))
      have := ihi (by omega)
      omega
  have := this l.length (Nat.le_refl _)
  omega
/-- it stays where its blocks do -/
theorem Lent.keep {W w : World} {v : V} {lo hi : Nat} (h : Lent W v lo hi) (hs : ∀ b o, lo ≤ b → b < hi → W.heap[b]? = some o → w.heap[b]? = some o) : Lent w v lo hi := by
  refine V.ind (Q := fun v => ∀ lo hi, Lent W v lo hi → (∀ b o, lo ≤ b → b < hi → W.heap[b]? = some o → w.heap[b]? = some o) → Lent w v lo hi) ?_ v lo hi h hs
  intro k n s a c e l ih lo hi h hs
  have hr := h.rise
  obtain ⟨b, h1, h5, h6, h7, h8, h9, g, h2, h3, h4⟩ := (Lent.iff _ _ _ _ _ _ _ _ _ _).1 h
  have mono : ∀ i, i ≤ l.length → g 0 ≤ g i := by
    intro i
    induction i with
    | zero => intro _; exact Nat.le_refl _
    | succ i ihi =>
      intro hi
      have := (h4 i (by omega)).rise
      have := ihi (by omega)
      omega
  have mono2 : ∀ j, j ≤ l.length → ∀ i, i ≤ j → g i ≤ g j := by
    intro j
    induction j with
    | zero => intro _ i hi; obtain rfl : i = 0 := by omega
              exact Nat.le_refl _
    | succ j ihj =>
      intro hj i hi
      by_cases e : i = j + 1
      · rw [e]; exact Nat.le_refl _
      · have := (h4 j (by omega)).rise
        have := ihj (by omega) i (by omega)
        omega
  have hb : b < hi := by have := mono l.length (Nat.le_refl _); omega
  obtain ⟨cs, hc1, hc2⟩ := h8
  have hc3 := hs b _ h1 hb hc1
  refine (Lent.iff _ _ _ _ _ _ _ _ _ _).2 ⟨b, h1, h5, h6, h7, ⟨cs, hc3, hc2⟩, h9.same (fun o => World.cell?_of_block (hc3.trans hc1.symm)), g, h2, h3, fun i hi => ih l[i] (List.getElem_mem _) _ _ (h4 i hi) (fun b' o' q1 q2 q3 => hs b' o' ?_ ?_ q3)⟩
  · have := mono i (by omega); omega
  · have := mono2 l.length (Nat.le_refl _) (i + 1) (by omega); omega
theorem Lent.mono {W : World} {v : V} {lo hi lo' hi' : Nat} (h : Lent W v lo hi) (h1 : lo' ≤ lo) (h2 : hi ≤ hi') : Lent W v lo' hi' := by
  obtain ⟨k, n, s, a, c, e, l, rfl⟩ := V.ex v
  obtain ⟨b, q1, q2, q3, q4, q5, q6, g, q7, q8, q9⟩ := (Lent.iff _ _ _ _ _ _ _ _ _ _).1 h
  exact (Lent.iff _ _ _ _ _ _ _ _ _ _).2 ⟨b, by omega, q2, q3, q4, q5, q6, g, q7, by omega, q9⟩
/-- what was lent lies there -/
theorem Lent.lies {W : World} {v : V} {lo hi : Nat} (h : Lent W v lo hi) : LiesIn (fun b => lo ≤ b ∧ b < hi) W v := by
  refine V.ind (Q := fun v => ∀ lo hi, Lent W v lo hi → LiesIn (fun b => lo ≤ b ∧ b < hi) W v) ?_ v lo hi h
  intro k n s a c e l ih lo hi h
  have hr := h.rise
  obtain ⟨b, h1, h5, h6, h7, h8, h9, g, h2, h3, h4⟩ := (Lent.iff _ _ _ _ _ _ _ _ _ _).1 h
  have mono : ∀ j, j ≤ l.length → ∀ i, i ≤ j → g i ≤ g j := by
    intro j
    induction j with
    | zero => intro _ i hi; obtain rfl : i = 0 := by omega
              exact Nat.le_refl _
    | succ j ihj =>
      intro hj i hi
      by_cases e : i = j + 1
      · rw [e]; exact Nat.le_refl _
      · have := (h4 j (by omega)).rise
        have := ihj (by omega) i (by omega)
        omega
  have hg0 := mono l.length (Nat.le_refl _) 0 (by omega)
  refine .mk h7 (fun _ => ⟨b, 0, h5, ⟨h1, by omega⟩, fun i hi => ?_⟩) (fun x hx => ?_)
  · have := h9 i (by rw [List.length_append]; omega)
    rwa [List.getElem_append_left hi] at this
  · obtain ⟨i, hi, rfl⟩ := List.getElem_of_mem hx
    refine (ih l[i] (List.getElem_mem _) _ _ (h4 i hi)).keep (fun _ _ _ => rfl) (fun b' hb' => ?_)
    have := mono l.length (Nat.le_refl _) (i + 1) (by omega)
    have := mono i (by omega) 0 (by omega)
    omega

theorem put5_mark (w : World) (b o j : Nat) :
    (((((w.setCell ⟨b, o, none⟩ (.int .i64 (-7))).setCell ⟨b, o + 1, none⟩ (.int .u64 j)).setCell ⟨b, o + 2, none⟩ (.string ⟨#[]⟩)).setCell ⟨b, o + 3, none⟩ (.slice none 0 0)).setCell ⟨b, o + 4, none⟩ (.int .i64 0)) = put5 w b o (markAt j) := put5_of w b o (-7) j ⟨#[]⟩ none 0 0 []
theorem Row.pre {W : World} {b o : Nat} {l m : List V} (h : Row W b o (l ++ m)) : Row W b o l := fun i hi => by
  have := h i (by rw [List.length_append]; omega)
  rwa [List.getElem_append_left hi] at this

theorem wt_pos (v : V) : 1 ≤ T.wt v.t := by
  obtain ⟨k, n, s, a, c, e, l, rfl⟩ := V.ex v
  rw [V.t_of, T.wt_of]
  omega
theorem len_wts (l : List V) : l.length ≤ T.wts (V.ts l) := by
  induction l with
  | nil => simp
  | cons x l ih =>
    have := wt_pos x
    rw [V.ts, T.wts, List.length_cons]
    omega
theorem wt_mem {l : List V} {x : V} (h : x ∈ l) : T.wt x.t ≤ T.wts (V.ts l) := by
  induction l with
  | nil => simp at h
  | cons y l ih =>
    rw [V.ts, T.wts]
    rcases List.mem_cons.1 h with rfl | h
    · omega
    · have := ih h
      omega
/-- what Lent is asked, of a value x -/
def LentOk (x : V) : Prop := T.wt x.t ≤ 100000 → ∀ (n₀ : Nat) (w : World), n₀ ≤ w.heap.size → Lies n₀ w x →
  Calls Tryd.prog 10 #[x.val] w fun e w' => ∃ y : V, e = .returned (.agg #[.int .i64 y.k, .int .u64 y.n, .string y.s, .slice y.a y.l.length y.c, .int .i64 y.e]) ∧
    Hid (y.t = x.t ∧ Lent w' y w.heap.size w'.heap.size) ∧ Below w.heap.size w w'

/-- what LentAll has made so far -/
def LentSoFar (l : List V) (N j : Nat) (wr : World) : Prop := ∃ (l' : List V) (g : Nat → Nat), V.ts l' = V.ts (l.take j) ∧ Blk wr N 25 ((l.length + 3) * 5) ∧ Row wr N 0 (l' ++ (marks l.length).take (j - l.length)) ∧
  N < g 0 ∧ g l'.length ≤ wr.heap.size ∧ ∀ i (h : i < l'.length), Lent wr l'[i] (g i) (g (i + 1))

theorem LentSoFar.len {l : List V} {N j : Nat} {wr : World} {l' : List V} (h : V.ts l' = V.ts (l.take j)) (hj : j ≤ l.length) : l'.length = j := by
  have := congrArg List.length h
  simp [V.ts_length] at this
  omega
theorem LentSoFar.lenN {l : List V} {j : Nat} {l' : List V} (h : V.ts l' = V.ts (l.take j)) (hj : l.length ≤ j) : l'.length = l.length := by
  have := congrArg List.length h
  simp [V.ts_length] at this
  omega
/-- one more value lent -/
theorem LentSoFar.value {l : List V} {N j : Nat} {wr w1 : World} {y : V} (h : LentSoFar l N j wr) (hj : j < l.length) (hNw : N < wr.heap.size) (hb1 : Below wr.heap.size (put5 wr N (j * 5) (markAt j)) w1)
    (ht : y.t = l[j].t) (hl : Lent w1 y wr.heap.size w1.heap.size) : LentSoFar l N (j + 1) (put5 w1 N (j * 5) y) := by
  obtain ⟨l', g, h1, h2, h3, h4, h5, h6⟩ := h
  have hlen := LentSoFar.len (N := N) (wr := wr) h1 (by omega)
  have hsz : wr.heap.size ≤ w1.heap.size := by have := hb1.size; rwa [put5_size] at this
  have hk1 : Blk w1 N 25 ((l.length + 3) * 5) := (put5_blk h2 _ _).below hb1 hNw
  rw [show j - l.length = 0 by omega, List.take_zero, List.append_nil] at h3
  have hrm : Row (put5 wr N (j * 5) (markAt j)) N 0 (l' ++ [markAt j]) := by have := put5_row (y := markAt j) h2 h3 (by omega); rwa [hlen] at this
  have hr1 : Row w1 N 0 l' := (hrm.pre).below hb1 hNw
  refine ⟨l' ++ [y], fun i => if i ≤ j then g i else w1.heap.size, ?_, put5_blk hk1 _ _, ?_, by simp [h4], ?_, ?_⟩
  · rw [List.take_succ_eq_append_getElem hj]
    simp only [V.ts_map, List.map_append, List.map_cons, List.map_nil] at h1 ⊢
    rw [h1, ht]
  · rw [show j + 1 - l.length = 0 by omega, List.take_zero, List.append_nil]
    have := put5_row (y := y) hk1 hr1 (by omega)
    rwa [hlen] at this
  · rw [put5_size]
    dsimp only
    rw [List.length_append, hlen, if_neg (by simp)]
    exact Nat.le_refl _
  · intro i hi
    dsimp only
    have keep : ∀ (v : V) lo hi', N < lo → Lent w1 v lo hi' → Lent (put5 w1 N (j * 5) y) v lo hi' := fun v lo hi' q hv => hv.keep (fun b o q1 q2 q3 => by
      rw [← put5_eq]
      rw [Below.heap_setCell _ _ _ _ (by show b ≠ N; omega), Below.heap_setCell _ _ _ _ (by show b ≠ N; omega), Below.heap_setCell _ _ _ _ (by show b ≠ N; omega), Below.heap_setCell _ _ _ _ (by show b ≠ N; omega), Below.heap_setCell _ _ _ _ (by show b ≠ N; omega)]
      exact q3)
    have mono : ∀ q, q ≤ j → g 0 ≤ g q := by
      intro q
      induction q with
      | zero => intro _; exact Nat.le_refl _
      | succ q ihq =>
        intro hq
        have := (h6 q (by omega)).rise
        have := ihq (by omega)
        omega
    have mono' : ∀ q, q ≤ j → g q ≤ g j := by
      intro q hq
      obtain ⟨d, rfl⟩ : ∃ d, j = q + d := ⟨j - q, by omega⟩
      clear mono
      have : ∀ d', d' ≤ d → g q ≤ g (q + d') := by
        intro d'
        induction d' with
        | zero => intro _; exact Nat.le_refl _
        | succ d' ihd =>
          intro hd
          have := (h6 (q + d') (by omega)).rise
          have := ihd (by omega)
          have e : q + (d' + 1) = q + d' + 1 := by omega
          rw [e]
          omega
      exact this d (Nat.le_refl _)
    by_cases hij : i < j
    · have e1 : (l' ++ [y])[i] = l'[i]'(by omega) := List.getElem_append_left (by omega)
      rw [e1, if_pos (by omega), if_pos (by omega)]
      have hm := mono i (by omega)
      have hm2 := mono' (i + 1) (by omega)
      rw [hlen] at h5
      refine keep _ _ _ (by omega) ((h6 i (by omega)).keep (fun b o q1 q2 q3 => ?_))
      refine (hb1.block b (by omega)).trans ?_
      rw [← put5_eq]
      rw [Below.heap_setCell _ _ _ _ (by show b ≠ N; omega), Below.heap_setCell _ _ _ _ (by show b ≠ N; omega), Below.heap_setCell _ _ _ _ (by show b ≠ N; omega), Below.heap_setCell _ _ _ _ (by show b ≠ N; omega), Below.heap_setCell _ _ _ _ (by show b ≠ N; omega)]
      exact q3
    · obtain rfl : i = j := by simp at hi; omega
      have e1 : (l' ++ [y])[i] = y := by
        have : i = l'.length := hlen.symm
        subst this
        simp
      rw [e1, if_pos (by omega), if_neg (by omega)]
      have hm := mono i (by omega)
      rw [hlen] at h5
      exact (keep _ _ _ (by omega) hl).mono h5 (Nat.le_refl _)
/-- one more mark -/
theorem LentSoFar.mark {l : List V} {N j : Nat} {wr : World} (h : LentSoFar l N j wr) (hj : l.length ≤ j) (hj3 : j < l.length + 3) : LentSoFar l N (j + 1) (put5 wr N (j * 5) (markAt j)) := by
  obtain ⟨l', g, h1, h2, h3, h4, h5, h6⟩ := h
  have hlen := LentSoFar.lenN h1 hj
  refine ⟨l', g, ?_, put5_blk h2 _ _, ?_, h4, by rw [put5_size]; exact h5, fun i hi => (h6 i hi).keep (fun b o q1 q2 q3 => ?_)⟩
  · rw [h1, List.take_of_length_le hj, List.take_of_length_le (by omega)]
  · have hl2 : (l' ++ (marks l.length).take (j - l.length)).length = j := by simp [marks, hlen]; omega
    have := put5_row (y := markAt j) h2 h3 (by omega)
    rw [hl2, List.append_assoc] at this
    have e : (marks l.length).take (j - l.length) ++ [markAt j] = (marks l.length).take (j + 1 - l.length) := by
      have : j = l.length ∨ j = l.length + 1 ∨ j = l.length + 2 := by omega
      rcases this with rfl | rfl | rfl
      · simp [marks]
      · simp [marks, show l.length + 1 - l.length = 1 by omega, show l.length + 1 + 1 - l.length = 2 by omega]
      · simp [marks, show l.length + 2 - l.length = 2 by omega, show l.length + 2 + 1 - l.length = 3 by omega]
    rwa [e] at this
  · have hb : b ≠ N := by
      have mono : ∀ q, q ≤ i → g 0 ≤ g q := by
        intro q
        induction q with
        | zero => intro _; exact Nat.le_refl _
        | succ q ihq =>
          intro hq
          have := (h6 q (by omega)).rise
          have := ihq (by omega)
          omega
      have := mono i (Nat.le_refl _)
      omega
    rw [← put5_eq]
    rw [Below.heap_setCell _ _ _ _ hb, Below.heap_setCell _ _ _ _ hb, Below.heap_setCell _ _ _ _ hb, Below.heap_setCell _ _ _ _ hb, Below.heap_setCell _ _ _ _ hb]
    exact q3
end Go.Proofs.YtaedlnliglmomaaDoor
