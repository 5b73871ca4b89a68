/- VLent, VLentW, VAsLent -/
import Derived.Test.YthhlpjhkeendcaaGreatDoorS11
import Derived.Test.YthhlpjhkeendcaaGreatDoorS07
import Derived.Test.YthhlpjhkeendcaaGreatDoorProg
import Derived.WalkLawsBesides
import Derived.Handy
import Derived.Outline
import Derived.Deep.RegionWith
namespace Go.Proofs.YthhlpjhkeendcaaGreatDoor
open Go.RowKit
set_option linter.unusedVariables false
set_option linter.unusedSimpArgs false
def markAt (i : Nat) : V := .of (-7) i ⟨#[]⟩ none 0 0 []
def marks (n : Nat) : List V := [markAt n, markAt (n + 1), markAt (n + 2)]
def Lent (W : World) : V → Nat → Nat → Prop :=
  V.para (fun p bs lo hi => ∃ b, lo ≤ b ∧ p.a = some ⟨b, 0, none⟩ ∧ p.c = bs.length + 3 ∧ Ok p.k p.n p.s p.c p.e bs.length ∧ Blk W b 25 ((bs.length + 3) * 5) ∧ Row W b 0 (bs.map Prod.fst ++ marks bs.length) ∧
    ∃ g : Nat → Nat, b < g 0 ∧ g bs.length ≤ hi ∧ ∀ i (h : i < bs.length), bs[i].2 (g i) (g (i + 1))) (fun _ _ => True)
theorem Lent.iff (W : World) (k n : Int) (s : ByteArray) (a : Option Addr) (c : Nat) (e : Int) (l : List V) (lo hi : Nat) :
    Lent W (V.of k n s a c e l) lo hi ↔ ∃ b, lo ≤ b ∧ a = some ⟨b, 0, none⟩ ∧ c = l.length + 3 ∧ Ok k n s c e l.length ∧ Blk W b 25 ((l.length + 3) * 5) ∧ Row W b 0 (l ++ marks l.length) ∧
      ∃ g : Nat → Nat, b < g 0 ∧ g l.length ≤ hi ∧ ∀ i (h : i < l.length), Lent W l[i] (g i) (g (i + 1)) := by
  unfold Lent
  rw [V.para_of]
  simp only [List.length_map, List.map_map, List.getElem_map]
  have h1 : ∀ f : V → Nat → Nat → Prop, (l.map (Prod.fst ∘ fun x => (x, f x))) = l := fun f => by
    conv => rhs; rw [← List.map_id l]
    rfl
  rw [h1]
theorem Lent.rise {W : World} {v : V} {lo hi : Nat} (h : Lent W v lo hi) : lo < hi := by
  refine V.ind (Q := fun v => ∀ lo hi, Lent W v lo hi → lo < hi) ?_ v lo hi h
  intro k n s a c e l ih lo hi h
  obtain ⟨b, h1, _, _, _, _, _, g, h2, h3, h4⟩ := (Lent.iff _ _ _ _ _ _ _ _ _ _).1 h
  have : ∀ i, i ≤ l.length → g 0 ≤ g i := by
    intro i
    induction i with
    | zero => intro _; exact Nat.le_refl _
    | succ i ihi =>
      intro hi
      have := ih l[i] (List.getElem_mem _) _ _ (h4 i (by omega))
      have := ihi (by omega)
      omega
  have := this l.length (Nat.le_refl _)
  omega
theorem Lent.keep {W w : World} {v : V} {lo hi : Nat} (h : Lent W v lo hi) (hs : ∀ b o, lo ≤ b → b < hi → W.heap[b]? = some o → w.heap[b]? = some o) : Lent w v lo hi := by
  refine V.ind (Q := fun v => ∀ lo hi, Lent W v lo hi → (∀ b o, lo ≤ b → b < hi → W.heap[b]? = some o → w.heap[b]? = some o) → Lent w v lo hi) ?_ v lo hi h hs
  intro k n s a c e l ih lo hi h hs
  have hr := h.rise
  obtain ⟨b, h1, h5, h6, h7, h8, h9, g, h2, h3, h4⟩ := (Lent.iff _ _ _ _ _ _ _ _ _ _).1 h
  have mono : ∀ i, i ≤ l.length → g 0 ≤ g i := by
    intro i
    induction i with
    | zero => intro _; exact Nat.le_refl _
    | succ i ihi =>
      intro hi
      have := (h4 i (by omega)).rise
      have := ihi (by omega)
      omega
  have mono2 : ∀ j, j ≤ l.length → ∀ i, i ≤ j → g i ≤ g j := by
    intro j
    induction j with
    | zero => intro _ i hi; obtain rfl : i = 0 := by omega
              exact Nat.le_refl _
    | succ j ihj =>
      intro hj i hi
      by_cases e : i = j + 1
      · rw [e]; exact Nat.le_refl _
      · have := (h4 j (by omega)).rise
        have := ihj (by omega) i (by omega)
        omega
  have hb : b < hi := by have := mono l.length (Nat.le_refl _); omega
  obtain ⟨cs, hc1, hc2⟩ := h8
  have hc3 := hs b _ h1 hb hc1
  refine (Lent.iff _ _ _ _ _ _ _ _ _ _).2 ⟨b, h1, h5, h6, h7, ⟨cs, hc3, hc2⟩, h9.same (fun o => World.cell?_of_block (hc3.trans hc1.symm)), g, h2, h3, fun i hi => ih l[i] (List.getElem_mem _) _ _ (h4 i hi) (fun b' o' q1 q2 q3 => hs b' o' ?_ ?_ q3)⟩
  · have := mono i (by omega); omega
  · have := mono2 l.length (Nat.le_refl _) (i + 1) (by omega); omega
theorem Lent.mono {W : World} {v : V} {lo hi lo' hi' : Nat} (h : Lent W v lo hi) (h1 : lo' ≤ lo) (h2 : hi ≤ hi') : Lent W v lo' hi' := by
  obtain ⟨k, n, s, a, c, e, l, rfl⟩ := V.ex v
  obtain ⟨b, q1, q2, q3, q4, q5, q6, g, q7, q8, q9⟩ := (Lent.iff _ _ _ _ _ _ _ _ _ _).1 h
  exact (Lent.iff _ _ _ _ _ _ _ _ _ _).2 ⟨b, by omega, q2, q3, q4, q5, q6, g, q7, by omega, q9⟩
theorem Lent.lies {W : World} {v : V} {lo hi : Nat} (h : Lent W v lo hi) : LiesIn (fun b => lo ≤ b ∧ b < hi) W v := by
  refine V.ind (Q := fun v => ∀ lo hi, Lent W v lo hi → LiesIn (fun b => lo ≤ b ∧ b < hi) W v) ?_ v lo hi h
  intro k n s a c e l ih lo hi h
  have hr := h.rise
  obtain ⟨b, h1, h5, h6, h7, h8, h9, g, h2, h3, h4⟩ := (Lent.iff _ _ _ _ _ _ _ _ _ _).1 h
  have mono : ∀ j, j ≤ l.length → ∀ i, i ≤ j → g i ≤ g j := by
    intro j
    induction j with
    | zero => intro _ i hi; obtain rfl : i = 0 := by omega
              exact Nat.le_refl _
    | succ j ihj =>
      intro hj i hi
      by_cases e : i = j + 1
      · rw [e]; exact Nat.le_refl _
      · have := (h4 j (by omega)).rise
        have := ihj (by omega) i (by omega)
        omega
  have hg0 := mono l.length (Nat.le_refl _) 0 (by omega)
  refine .mk h7 (fun _ => ⟨b, 0, h5, ⟨h1, by omega⟩, fun i hi => ?_⟩) (fun x hx => ?_)
  · have := h9 i (by rw [List.length_append]; omega)
    rwa [List.getElem_append_left hi] at this
  · obtain ⟨i, hi, rfl⟩ := List.getElem_of_mem hx
    refine (ih l[i] (List.getElem_mem _) _ _ (h4 i hi)).keep (fun _ _ _ => rfl) (fun b' hb' => ?_)
    have := mono l.length (Nat.le_refl _) (i + 1) (by omega)
    have := mono i (by omega) 0 (by omega)
    omega
theorem put5_mark (w : World) (b o j : Nat) :
    (((((w.setCell ⟨b, o, none⟩ (.int .i64 (-7))).setCell ⟨b, o + 1, none⟩ (.int .u64 j)).setCell ⟨b, o + 2, none⟩ (.string ⟨#[]⟩)).setCell ⟨b, o + 3, none⟩ (.slice none 0 0)).setCell ⟨b, o + 4, none⟩ (.int .i64 0)) = put5 w b o (markAt j) := put5_of w b o (-7) j ⟨#[]⟩ none 0 0 []
theorem Row.pre {W : World} {b o : Nat} {l m : List V} (h : Row W b o (l ++ m)) : Row W b o l := fun i hi => by
  have := h i (by rw [List.length_append]; omega)
  rwa [List.getElem_append_left hi] at this
theorem wt_pos (v : V) : 1 ≤ T.wt v.t := by
  obtain ⟨k, n, s, a, c, e, l, rfl⟩ := V.ex v
  rw [V.t_of, T.wt_of]
  omega
theorem len_wts (l : List V) : l.length ≤ T.wts (V.ts l) := by
  induction l with
  | nil => simp
  | cons x l ih =>
    have := wt_pos x
    rw [V.ts, T.wts, List.length_cons]
    omega
theorem wt_mem {l : List V} {x : V} (h : x ∈ l) : T.wt x.t ≤ T.wts (V.ts l) := by
  induction l with
  | nil => simp at h
  | cons y l ih =>
    rw [V.ts, T.wts]
    rcases List.mem_cons.1 h with rfl | h
    · omega
    · have := ih h
      omega
def LentOk (x : V) : Prop := T.wt x.t ≤ 100000 → ∀ (n₀ : Nat) (w : World), n₀ ≤ w.heap.size → Lies n₀ w x →
  Calls Tryz.prog 7 #[x.val] w fun e w' => ∃ y : V, e = .returned (.agg #[.int .i64 y.k, .int .u64 y.n, .string y.s, .slice y.a y.l.length y.c, .int .i64 y.e]) ∧
    Hid (y.t = x.t ∧ Lent w' y w.heap.size w'.heap.size) ∧ Below w.heap.size w w'
def LentSoFar (l : List V) (N j : Nat) (wr : World) : Prop := ∃ (l' : List V) (g : Nat → Nat), V.ts l' = V.ts (l.take j) ∧ Blk wr N 25 ((l.length + 3) * 5) ∧ Row wr N 0 (l' ++ (marks l.length).take (j - l.length)) ∧
  N < g 0 ∧ g l'.length ≤ wr.heap.size ∧ ∀ i (h : i < l'.length), Lent wr l'[i] (g i) (g (i + 1))
theorem LentSoFar.len {l : List V} {N j : Nat} {wr : World} {l' : List V} (h : V.ts l' = V.ts (l.take j)) (hj : j ≤ l.length) : l'.length = j := by
  have := congrArg List.length h
  simp [V.ts_length] at this
  omega
theorem LentSoFar.lenN {l : List V} {j : Nat} {l' : List V} (h : V.ts l' = V.ts (l.take j)) (hj : l.length ≤ j) : l'.length = l.length := by
  have := congrArg List.length h
  simp [V.ts_length] at this
  omega
theorem LentSoFar.value {l : List V} {N j : Nat} {wr w1 : World} {y : V} (h : LentSoFar l N j wr) (hj : j < l.length) (hNw : N < wr.heap.size) (hb1 : Below wr.heap.size (put5 wr N (j * 5) (markAt j)) w1)
    (ht : y.t = l[j].t) (hl : Lent w1 y wr.heap.size w1.heap.size) : LentSoFar l N (j + 1) (put5 w1 N (j * 5) y) := by
  obtain ⟨l', g, h1, h2, h3, h4, h5, h6⟩ := h
  have hlen := LentSoFar.len (N := N) (wr := wr) h1 (by omega)
  have hsz : wr.heap.size ≤ w1.heap.size := by have := hb1.size; rwa [put5_size] at this
  have hk1 : Blk w1 N 25 ((l.length + 3) * 5) := (put5_blk h2 _ _).below hb1 hNw
  rw [show j - l.length = 0 by omega, List.take_zero, List.append_nil] at h3
  have hrm : Row (put5 wr N (j * 5) (markAt j)) N 0 (l' ++ [markAt j]) := by have := put5_row (y := markAt j) h2 h3 (by omega); rwa [hlen] at this
  have hr1 : Row w1 N 0 l' := (hrm.pre).below hb1 hNw
  refine ⟨l' ++ [y], fun i => if i ≤ j then g i else w1.heap.size, ?_, put5_blk hk1 _ _, ?_, by simp [h4], ?_, ?_⟩
  · rw [List.take_succ_eq_append_getElem hj]
    simp only [V.ts_map, List.map_append, List.map_cons, List.map_nil] at h1 ⊢
    rw [h1, ht]
  · rw [show j + 1 - l.length = 0 by omega, List.take_zero, List.append_nil]
    have := put5_row (y := y) hk1 hr1 (by omega)
    rwa [hlen] at this
  · rw [put5_size]
    dsimp only
    rw [List.length_append, hlen, if_neg (by simp)]
    exact Nat.le_refl _
  · intro i hi
    dsimp only
    have keep : ∀ (v : V) lo hi', N < lo → Lent w1 v lo hi' → Lent (put5 w1 N (j * 5) y) v lo hi' := fun v lo hi' q hv => hv.keep (fun b o q1 q2 q3 => by
      rw [← put5_eq]
      rw [Below.heap_setCell _ _ _ _ (by show b ≠ N; omega), Below.heap_setCell _ _ _ _ (by show b ≠ N; omega), Below.heap_setCell _ _ _ _ (by show b ≠ N; omega), Below.heap_setCell _ _ _ _ (by show b ≠ N; omega), Below.heap_setCell _ _ _ _ (by show b ≠ N; omega)]
      exact q3)
    have mono : ∀ q, q ≤ j → g 0 ≤ g q := by
      intro q
      induction q with
      | zero => intro _; exact Nat.le_refl _
      | succ q ihq =>
        intro hq
        have := (h6 q (by omega)).rise
        have := ihq (by omega)
        omega
    have mono' : ∀ q, q ≤ j → g q ≤ g j := by
      intro q hq
      obtain ⟨d, rfl⟩ : ∃ d, j = q + d := ⟨j - q, by omega⟩
      clear mono
      have : ∀ d', d' ≤ d → g q ≤ g (q + d') := by
        intro d'
        induction d' with
        | zero => intro _; exact Nat.le_refl _
        | succ d' ihd =>
          intro hd
          have := (h6 (q + d') (by omega)).rise
          have := ihd (by omega)
          have e : q + (d' + 1) = q + d' + 1 := by omega
          rw [e]
          omega
      exact this d (Nat.le_refl _)
    by_cases hij : i < j
    · have e1 : (l' ++ [y])[i] = l'[i]'(by omega) := List.getElem_append_left (by omega)
      rw [e1, if_pos (by omega), if_pos (by omega)]
      have hm := mono i (by omega)
      have hm2 := mono' (i + 1) (by omega)
      rw [hlen] at h5
      refine keep _ _ _ (by omega) ((h6 i (by omega)).keep (fun b o q1 q2 q3 => ?_))
      refine (hb1.block b (by omega)).trans ?_
      rw [← put5_eq]
      rw [Below.heap_setCell _ _ _ _ (by show b ≠ N; omega), Below.heap_setCell _ _ _ _ (by show b ≠ N; omega), Below.heap_setCell _ _ _ _ (by show b ≠ N; omega), Below.heap_setCell _ _ _ _ (by show b ≠ N; omega), Below.heap_setCell _ _ _ _ (by show b ≠ N; omega)]
      exact q3
    · obtain rfl : i = j := by simp at hi; omega
      have e1 : (l' ++ [y])[i] = y := by
        have : i = l'.length := hlen.symm
        subst this
        simp
      rw [e1, if_pos (by omega), if_neg (by omega)]
      have hm := mono i (by omega)
      rw [hlen] at h5
      exact (keep _ _ _ (by omega) hl).mono h5 (Nat.le_refl _)
theorem LentSoFar.mark {l : List V} {N j : Nat} {wr : World} (h : LentSoFar l N j wr) (hj : l.length ≤ j) (hj3 : j < l.length + 3) : LentSoFar l N (j + 1) (put5 wr N (j * 5) (markAt j)) := by
  obtain ⟨l', g, h1, h2, h3, h4, h5, h6⟩ := h
  have hlen := LentSoFar.lenN h1 hj
  refine ⟨l', g, ?_, put5_blk h2 _ _, ?_, h4, by rw [put5_size]; exact h5, fun i hi => (h6 i hi).keep (fun b o q1 q2 q3 => ?_)⟩
  · rw [h1, List.take_of_length_le hj, List.take_of_length_le (by omega)]
  · have hl2 : (l' ++ (marks l.length).take (j - l.length)).length = j := by simp [marks, hlen]; omega
    have := put5_row (y := markAt j) h2 h3 (by omega)
    rw [hl2, List.append_assoc] at this
    have e : (marks l.length).take (j - l.length) ++ [markAt j] = (marks l.length).take (j + 1 - l.length) := by
      have : j = l.length ∨ j = l.length + 1 ∨ j = l.length + 2 := by omega
      rcases this with rfl | rfl | rfl
      · simp [marks]
      · simp [marks, show l.length + 1 - l.length = 1 by omega, show l.length + 1 + 1 - l.length = 2 by omega]
      · simp [marks, show l.length + 2 - l.length = 2 by omega, show l.length + 2 + 1 - l.length = 3 by omega]
    rwa [e] at this
  · have hb : b ≠ N := by
      have mono : ∀ q, q ≤ i → g 0 ≤ g q := by
        intro q
        induction q with
        | zero => intro _; exact Nat.le_refl _
        | succ q ihq =>
          intro hq
          have := (h6 q (by omega)).rise
          have := ihq (by omega)
          omega
      have := mono i (Nat.le_refl _)
      omega
    rw [← put5_eq]
    rw [Below.heap_setCell _ _ _ _ hb, Below.heap_setCell _ _ _ _ hb, Below.heap_setCell _ _ _ _ hb, Below.heap_setCell _ _ _ _ hb, Below.heap_setCell _ _ _ _ hb]
    exact q3
def LentRow (l : List V) (N : Nat) (w' : World) : Prop := ∃ l' : List V, V.ts l' = V.ts l ∧ Blk w' N 25 ((l.length + 3) * 5) ∧ Row w' N 0 (l' ++ marks l.length) ∧ ∃ g : Nat → Nat, N < g 0 ∧ g l.length ≤ w'.heap.size ∧ ∀ i (h : i < l'.length), Lent w' l'[i] (g i) (g (i + 1))
set_option maxRecDepth 100000 in
set_option maxHeartbeats 1000000 in
theorem lentAll_any (l : List V) (ih : ∀ x ∈ l, LentOk x) (hw : T.wts (V.ts l) ≤ 100000) (a : Option Addr) (c n₀ : Nat) (w : World) (hn : n₀ ≤ w.heap.size) (hc : l.length ≤ c) (hcc : l.length ≤ 2199023255552) (hr : 0 < l.length → ∃ b o, a = some ⟨b, o, none⟩ ∧ b < n₀ ∧ Row w b o l) (ls : ∀ x ∈ l, Lies n₀ w x) :
    Calls Tryz.prog 21 #[.slice a l.length c] w fun e w' => e = .returned (.slice (some ⟨w.heap.size, 0, none⟩) l.length (l.length + 3)) ∧ Hid (LentRow l w.heap.size w') ∧ Below w.heap.size w w' := by
  have hmk := run_makeV (l.length + 3) (l.length + 3) (Nat.le_refl _) (by omega)
  rw [show ((l.length + 3 : Nat) : Int) = (l.length : Int) + 3 by omega] at hmk
  have LR := hide hr
  have LS := hide ls
  have IH := hide ih
  clear hr ls ih
  go_enter Tryz.func21, Tryz.ntmps21
  go_wp2
  obtain ⟨W0, hW0⟩ : ∃ W0, w.alloc (Obj.cells (madeCells zeroV ((l.length + 3) * 5)) 25) = W0 := ⟨_, rfl⟩
  have hs0 : W0.heap.size = w.heap.size + 1 := by rw [← hW0]; simp
  have hb0 : Below w.heap.size w W0 := by rw [← hW0]; exact bel1 (Below.refl _ _) (Nat.le_refl _) _
  have HK0 : Hid (LentSoFar l w.heap.size 0 W0) := by
    refine ⟨[], fun _ => w.heap.size + 1, rfl, by rw [← hW0]; exact Blk.made _ _ _ _, fun i hi => by simp at hi, by show _ < w.heap.size + 1; omega, by show w.heap.size + 1 ≤ _; omega, fun i hi => by simp at hi⟩
  rw [hW0]
  clear hW0 hmk
  go_loopw [5] (fun i wr => ∃ (j : Nat), i = .int .i64 j ∧ j ≤ l.length + 3 ∧ Below w.heap.size w wr ∧ w.heap.size < wr.heap.size ∧ Hid (LentSoFar l w.heap.size j wr)) (fun i _ => l.length + 3 - (intOf i).toNat)
  case atStart => exact ⟨0, rfl, Nat.zero_le _, hb0, by omega, HK0⟩
  case round =>
    obtain ⟨j, rfl, hj, hb, hsz, HL⟩ := hrel
    have hbk : Blk wr w.heap.size 25 ((l.length + 3) * 5) := by obtain ⟨_, _, _, h, _⟩ := HL.out; exact h
    have f0 := hbk.free
    by_cases hjl : j < l.length
    · obtain ⟨z0, c0⟩ := hbk.some (j * 5) (by omega)
      obtain ⟨z1, c1⟩ := hbk.some (j * 5 + 1) (by omega)
      obtain ⟨z2, c2⟩ := hbk.some (j * 5 + 2) (by omega)
      obtain ⟨z3, c3⟩ := hbk.some (j * 5 + 3) (by omega)
      obtain ⟨z4, c4⟩ := hbk.some (j * 5 + 4) (by omega)
      have HBK := hide hbk
      clear hbk
      obtain ⟨b, o, rfl, hlt, hr⟩ := LR.out (by omega)
      obtain ⟨x0, x1, x2, x3, x4⟩ := (hr.below hb (by omega)) j hjl
      have hne : b ≠ w.heap.size := by omega
      have HR := hide hr
      clear hr
      have hx := IH.out l[j] (List.getElem_mem hjl) (Nat.le_trans (wt_mem (List.getElem_mem hjl)) hw) n₀ (put5 wr w.heap.size (j * 5) (markAt j))
      rw [V.val_eq, put5_size] at hx
      have HH := hide hx
      clear hx
      have hlt3 : decide ((j : Int) < (l.length : Int) + 3) = true := by simp; omega
      go_wp2_with fail
      rw [put5_mark]
      have hbm : Below w.heap.size w (put5 wr w.heap.size (j * 5) (markAt j)) := put5_below hb (Nat.le_refl _)
      refine Calls.mono (HH.out (by omega) ((LS.out _ (List.getElem_mem hjl)).keep hbm hn)) ?_
      rintro e w1 ⟨y, rfl, HY, hb1⟩
      have hs1 : wr.heap.size ≤ w1.heap.size := by have := hb1.size; rwa [put5_size] at this
      have hk1 : Blk w1 w.heap.size 25 ((l.length + 3) * 5) := (put5_blk HBK.out _ _).below hb1 hsz
      clear c0 c1 c2 c3 c4 f0
      obtain ⟨y0, c0⟩ := hk1.some (j * 5) (by omega)
      obtain ⟨y1, c1⟩ := hk1.some (j * 5 + 1) (by omega)
      obtain ⟨y2, c2⟩ := hk1.some (j * 5 + 2) (by omega)
      obtain ⟨y3, c3⟩ := hk1.some (j * 5 + 3) (by omega)
      obtain ⟨y4, c4⟩ := hk1.some (j * 5 + 4) (by omega)
      have f0 := hk1.free
      have HB1 := hide hb1
      have hbw1 : Below w.heap.size w w1 := hbm.trans (hb1.mono (by omega))
      clear hb1 hk1
      go_wp2
      go_roundw
      case rel =>
        rw [put5_eq]
        exact ⟨j + 1, by go_num, by omega, put5_below hbw1 (Nat.le_refl _), by rw [put5_size]; omega, HL.out.value hjl hsz HB1.out HY.out.1 HY.out.2⟩
      case measure => simp [intOf]; omega
    · by_cases hj3 : j < l.length + 3
      · obtain ⟨z0, c0⟩ := hbk.some (j * 5) (by omega)
        obtain ⟨z1, c1⟩ := hbk.some (j * 5 + 1) (by omega)
        obtain ⟨z2, c2⟩ := hbk.some (j * 5 + 2) (by omega)
        obtain ⟨z3, c3⟩ := hbk.some (j * 5 + 3) (by omega)
        obtain ⟨z4, c4⟩ := hbk.some (j * 5 + 4) (by omega)
        clear hbk
        go_wp2
        go_roundw
        case rel =>
          rw [put5_mark]
          exact ⟨j + 1, by go_num, by omega, put5_below hb (Nat.le_refl _), by rw [put5_size]; omega, HL.out.mark (by omega) hj3⟩
        case measure => simp [intOf]; omega
      · obtain rfl : j = l.length + 3 := by omega
        clear hbk f0
        go_wp2
        go_ret
        refine ⟨rfl, ?_, hb⟩
        obtain ⟨l', g, h1, h2, h3, h4, h5, h6⟩ := HL.out
        have hlen := LentSoFar.lenN h1 (by omega)
        rw [List.take_of_length_le (by omega)] at h1
        rw [show l.length + 3 - l.length = 3 by omega, List.take_of_length_le (by simp [marks])] at h3
        rw [hlen] at h5
        exact ⟨l', h1, h2, h3, g, h4, h5, h6⟩
set_option maxRecDepth 100000 in
set_option maxHeartbeats 1000000 in
theorem lent_any : ∀ x, LentOk x := by
  refine V.ind ?_
  intro k n s a c e l ih hw n₀ w hn hx
  rw [V.t_of, T.wt_of] at hw
  have hlw := len_wts l
  have HF : Hid (∀ w1, Below w.heap.size w w1 → Calls Tryz.prog 21 #[.slice a l.length c] w1 fun e w' => e = .returned (.slice (some ⟨w1.heap.size, 0, none⟩) l.length (l.length + 3)) ∧ Hid (LentRow l w1.heap.size w') ∧ Below w1.heap.size w1 w') := by
    intro w1 hb
    have hx1 := hx.keep hb hn
    have hsz := hb.size
    exact lentAll_any l ih (by omega) a c n₀ w1 (by omega) hx1.ok.l hx1.ok.c hx1.row hx1.sub
  have OK := hide hx.ok
  clear ih hx
  rw [V.val_of]
  go_enter Tryz.func7, Tryz.ntmps7
  go_wp2_with fail
  refine Calls.mono (HF.out _ (bel2 (Below.refl _ _) (Nat.le_refl _) _ _)) ?_
  rintro e' w1 ⟨rfl, HL, hb1⟩
  have hz : w.heap.size + 1 < w1.heap.size := by have := hb1.size; simp at this; omega
  obtain ⟨g1, g2, g3, g4⟩ := box_cells hb1
  have k0 := g1 0
  have k1 := g1 1
  have k2 := g1 2
  have k3 := g1 3
  have k4 := g1 4
  have j0 := g2 0
  have j1 := g2 1
  have j2 := g2 2
  have j3 := g2 3
  have j4 := g2 4
  simp only [List.getElem?_toArray, List.getElem?_cons_zero, List.getElem?_cons_succ] at k0 k1 k2 k3 k4 j0 j1 j2 j3 j4
  have HB1 := hide hb1
  clear hb1 g1 g2
  go_wp2
  have ok := OK.out
  obtain ⟨l', h1, h2, h3, g, h4, h5, h6⟩ := HL.out
  simp only [World.size_alloc] at h2 h3 h4
  have hlen : l'.length = l.length := by simpa [V.ts_length] using congrArg List.length h1
  have hB1 : ∀ (b' : Nat) (o : Obj), b' ≠ w.heap.size → b' ≠ w.heap.size + 1 → w1.heap[b']? = some o → (put5 (w1.setCell ⟨w.heap.size, 3, none⟩ (.slice (some ⟨w.heap.size + 1 + 1, 0, none⟩) l'.length (l'.length + 3))) (w.heap.size + 1) 0 (.of k n s (some ⟨w.heap.size + 1 + 1, 0, none⟩) (l'.length + 3) e l')).heap[b']? = some o := fun b' o n1 n2 q => by
    rw [← put5_eq, Below.heap_setCell _ _ _ _ (by show b' ≠ w.heap.size + 1; omega), Below.heap_setCell _ _ _ _ (by show b' ≠ w.heap.size + 1; omega), Below.heap_setCell _ _ _ _ (by show b' ≠ w.heap.size + 1; omega), Below.heap_setCell _ _ _ _ (by show b' ≠ w.heap.size + 1; omega), Below.heap_setCell _ _ _ _ (by show b' ≠ w.heap.size + 1; omega), Below.heap_setCell _ _ _ _ (by show b' ≠ w.heap.size; omega)]
    exact q
  have hbz : Below w.heap.size w _ := put5_below (y := .of k n s (some ⟨w.heap.size + 1 + 1, 0, none⟩) (l'.length + 3) e l') (o := 0) (b := w.heap.size + 1) ((belOn (bel2 (Below.refl w.heap.size w) (Nat.le_refl _) _ _) (by simp; omega) HB1.out).setCell (p := ⟨w.heap.size, 3, none⟩) (Nat.le_refl _) (.slice (some ⟨w.heap.size + 1 + 1, 0, none⟩) l'.length (l'.length + 3))) (by omega)
  have hsz : (put5 (w1.setCell ⟨w.heap.size, 3, none⟩ (.slice (some ⟨w.heap.size + 1 + 1, 0, none⟩) l'.length (l'.length + 3))) (w.heap.size + 1) 0 (.of k n s (some ⟨w.heap.size + 1 + 1, 0, none⟩) (l'.length + 3) e l')).heap.size = w1.heap.size := by rw [put5_size]; simp [World.setCell]
  have hLent : Lent (put5 (w1.setCell ⟨w.heap.size, 3, none⟩ (.slice (some ⟨w.heap.size + 1 + 1, 0, none⟩) l'.length (l'.length + 3))) (w.heap.size + 1) 0 (.of k n s (some ⟨w.heap.size + 1 + 1, 0, none⟩) (l'.length + 3) e l')) (.of k n s (some ⟨w.heap.size + 1 + 1, 0, none⟩) (l'.length + 3) e l') w.heap.size w1.heap.size := by
    have h0 : Lent w1 (.of k n s (some ⟨w.heap.size + 1 + 1, 0, none⟩) (l'.length + 3) e l') (w.heap.size + 1 + 1) w1.heap.size := by
      refine (Lent.iff _ _ _ _ _ _ _ _ _ _).2 ⟨_, Nat.le_refl _, rfl, rfl, ⟨ok.k, ok.n, ok.s, ok.e, by omega, by omega⟩, by rw [hlen]; exact h2, by rw [hlen]; exact h3, g, h4, by rw [hlen]; exact h5, h6⟩
    exact (h0.keep (fun b o q1 q2 q3 => hB1 b o (by omega) (by omega) q3)).mono (by omega) (Nat.le_refl _)
  rw [← put5_of] at hLent hbz hsz
  rw [hlen] at hLent hbz hsz
  refine bodyPost_ret (v := .agg #[.int .i64 k, .int .u64 n, .string s, .slice (some ⟨w.heap.size + 1 + 1, 0, none⟩) l.length (l.length + 3), .int .i64 e]) (by simp [results, Tryz.results7, go_sem, j0, j1, j2, j3, j4]) rfl ⟨.of k n s (some ⟨w.heap.size + 1 + 1, 0, none⟩) (l.length + 3) e l', by rw [V.l_of, hlen]; rfl, ⟨by rw [V.t_of, V.t_of, h1], ?_⟩, hbz⟩
  rw [hsz]
  exact hLent
structure Turns (lo hi : Nat) (w w' : World) : Prop where
  os : w'.os = w.os
  tape : w'.tape = w.tape
  output : w'.output = w.output
  size : w.heap.size ≤ w'.heap.size
  block : ∀ k, k < w.heap.size → ¬ (lo ≤ k ∧ k < hi) → w'.heap[k]? = w.heap[k]?
theorem Turns.refl (lo hi : Nat) (w : World) : Turns lo hi w w := ⟨rfl, rfl, rfl, Nat.le_refl _, fun _ _ _ => rfl⟩
theorem Turns.trans {lo hi : Nat} {a b c : World} (h : Turns lo hi a b) (k : Turns lo hi b c) : Turns lo hi a c :=
  ⟨k.os.trans h.os, k.tape.trans h.tape, k.output.trans h.output, Nat.le_trans h.size k.size, fun i hi hn => (k.block i (Nat.lt_of_lt_of_le hi h.size) hn).trans (h.block i hi hn)⟩
theorem Turns.wide {lo hi lo' hi' : Nat} {a b : World} (h : Turns lo hi a b) (h1 : lo' ≤ lo) (h2 : hi ≤ hi') : Turns lo' hi' a b :=
  ⟨h.os, h.tape, h.output, h.size, fun i hi hn => h.block i hi (fun q => hn (by omega))⟩
theorem Turns.of_below {lo hi : Nat} {a b : World} (h : Below a.heap.size a b) : Turns lo hi a b := ⟨h.os, h.tape, h.output, h.size, fun i hi _ => h.block i hi⟩
theorem Turns.below {lo hi n : Nat} {a b : World} (h : Turns lo hi a b) (hn : n ≤ lo) (hs : n ≤ a.heap.size) : Below n a b := ⟨h.os, h.tape, h.output, h.size, fun i hi => h.block i (by omega) (by omega)⟩
theorem Turns.setCell {lo hi : Nat} {a w : World} (h : Turns lo hi a w) {b : Nat} (h1 : lo ≤ b) (h2 : b < hi) (o : Nat) (v : Value) : Turns lo hi a (w.setCell ⟨b, o, none⟩ v) :=
  ⟨h.os, h.tape, h.output, by have := h.size; simp [World.setCell]; omega, fun i hi hn => by rw [Below.heap_setCell _ _ _ _ (by show i ≠ b; omega)]; exact h.block i hi hn⟩
theorem Turns.put5 {lo hi : Nat} {a w : World} (h : Turns lo hi a w) {b : Nat} (h1 : lo ≤ b) (h2 : b < hi) (o : Nat) (y : V) : Turns lo hi a (put5 w b o y) := by
  rw [← put5_eq]
  exact ((((h.setCell h1 h2 _ _).setCell h1 h2 _ _).setCell h1 h2 _ _).setCell h1 h2 _ _).setCell h1 h2 _ _
theorem Turns.same {lo hi : Nat} {a w : World} (h : Turns lo hi a w) {b : Nat} (hb : b < a.heap.size) (hn : ¬ (lo ≤ b ∧ b < hi)) : Same a w b := fun o => World.cell?_of_block (h.block b hb hn)
def AsOk (y : V) : Prop := ∀ (v : V) (lo hi : Nat) (Q : Nat → Prop) (w : World), Lent w y lo hi → hi ≤ w.heap.size → LiesIn Q w v → (∀ b, Q b → b < w.heap.size ∧ ¬ (lo ≤ b ∧ b < hi)) → y.t = v.t →
  Calls Tryz.prog 14 #[y.val, v.val] w fun e w' => e = .returned (.bool true) ∧ Turns lo hi w w'
structure AsSoFar (l : List V) (g : Nat → Nat) (b lo hi j : Nat) (w wr : World) : Prop where
  turns : Turns lo hi w wr
  blk : Blk wr b 25 ((l.length + 3) * 5)
  row : ∀ o, j * 5 ≤ o → wr.cell? ⟨b, o, none⟩ = w.cell? ⟨b, o, none⟩
  rest : ∀ i (h : i < l.length), j ≤ i → Lent wr l[i] (g i) (g (i + 1))
def dead : V := .of (-8) 0 ⟨#[]⟩ none 0 0 []
theorem put5_dead (w : World) (b o : Nat) :
    (((((w.setCell ⟨b, o, none⟩ (.int .i64 (-8))).setCell ⟨b, o + 1, none⟩ (.int .u64 0)).setCell ⟨b, o + 2, none⟩ (.string ⟨#[]⟩)).setCell ⟨b, o + 3, none⟩ (.slice none 0 0)).setCell ⟨b, o + 4, none⟩ (.int .i64 0)) = put5 w b o dead := put5_of w b o (-8) 0 ⟨#[]⟩ none 0 0 []
theorem heap_put5 (w : World) (b o k : Nat) (y : V) (h : k ≠ b) : (put5 w b o y).heap[k]? = w.heap[k]? := by
  rw [← put5_eq]
  rw [Below.heap_setCell _ _ _ _ h, Below.heap_setCell _ _ _ _ h, Below.heap_setCell _ _ _ _ h, Below.heap_setCell _ _ _ _ h, Below.heap_setCell _ _ _ _ h]
theorem g_mono {W : World} {l : List V} {g : Nat → Nat} (h : ∀ i (h : i < l.length), Lent W l[i] (g i) (g (i + 1))) : ∀ j, j ≤ l.length → ∀ i, i ≤ j → g i ≤ g j := by
  intro j
  induction j with
  | zero => intro _ i hi; obtain rfl : i = 0 := by omega
            exact Nat.le_refl _
  | succ j ihj =>
    intro hj i hi
    by_cases e : i = j + 1
    · rw [e]; exact Nat.le_refl _
    · have := (h j (by omega)).rise
      have := ihj (by omega) i (by omega)
      omega
theorem AsSoFar.next {l : List V} {g : Nat → Nat} {b lo hi j : Nat} {w wr w1 : World} (h : AsSoFar l g b lo hi j w wr) (hg : ∀ i (h : i < l.length), Lent w l[i] (g i) (g (i + 1))) (h0 : b < g 0) (hgh : g l.length ≤ hi) (hlo : lo ≤ b) (hhi : hi ≤ w.heap.size) (hj : j < l.length + 3)
    (h1 : Turns (if j < l.length then g j else 0) (if j < l.length then g (j + 1) else 0) wr w1) : AsSoFar l g b lo hi (j + 1) w (put5 w1 b (j * 5) dead) := by
  have hm := g_mono hg
  have hsz := h.turns.size
  have hb : b < hi := by have := hm l.length (Nat.le_refl _) 0 (by omega); omega
  have hw1 : Turns lo hi wr w1 := by
    by_cases e : j < l.length
    · rw [if_pos e, if_pos e] at h1
      refine h1.wide ?_ ?_
      · have := hm j (by omega) 0 (by omega); omega
      · have := hm l.length (Nat.le_refl _) (j + 1) (by omega); omega
    · rw [if_neg e, if_neg e] at h1
      exact ⟨h1.os, h1.tape, h1.output, h1.size, fun i q _ => h1.block i q (by omega)⟩
  have hout : ¬ ((if j < l.length then g j else 0) ≤ b ∧ b < (if j < l.length then g (j + 1) else 0)) := by
    by_cases e : j < l.length
    · rw [if_pos e, if_pos e]
      have := hm j (by omega) 0 (by omega)
      omega
    · rw [if_neg e, if_neg e]; omega
  have hk1 : Blk w1 b 25 ((l.length + 3) * 5) := by
    obtain ⟨cs, q1, q2⟩ := h.blk
    exact ⟨cs, (h1.block b (by omega) hout).trans q1, q2⟩
  refine ⟨(h.turns.trans hw1).put5 hlo hb _ _, put5_blk hk1 _ _, fun o ho => ?_, fun i hi' hij => ?_⟩
  · have e1 : (put5 w1 b (j * 5) dead).cell? ⟨b, o, none⟩ = w1.cell? ⟨b, o, none⟩ := World.cell?_setCells_out b (words dead) _ w1 _ (fun _ _ => .inr (by simp [words]; omega))
    rw [e1, h1.same (by omega) hout o]
    exact h.row o (by omega)
  · refine (h.rest i hi' (by omega)).keep (fun b' o' q1 q2 q3 => ?_)
    have g0 := hm i (by omega) 0 (by omega)
    have g1 := hm l.length (Nat.le_refl _) (i + 1) (by omega)
    rw [heap_put5 _ _ _ _ _ (by omega)]
    refine (h1.block b' (by omega) ?_).trans q3
    rw [if_pos (by omega), if_pos (by omega)]
    have := hm i (by omega) (j + 1) (by omega)
    omega
end Go.Proofs.YthhlpjhkeendcaaGreatDoor
