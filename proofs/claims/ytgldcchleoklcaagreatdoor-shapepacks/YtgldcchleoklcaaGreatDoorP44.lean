/- HWt -/
import Derived.Test.YtgldcchleoklcaaGreatDoorP43
import Derived.Test.YtgldcchleoklcaaGreatDoorP12
namespace Go.Proofs.YtgldcchleoklcaaGreatDoor
open Go.RowKit
set_option linter.unusedVariables false
set_option linter.unusedSimpArgs false
theorem wt_ofV (k n : Int) (s : ByteArray) (a : Option Addr) (c : Nat) (e : Int) (l : List V) : T.wt (V.of k n s a c e l) = 1 + s.size / 64 + T.wts l := by
  rw [← wts_sum]
  unfold T.wt
  rw [V.fold_of]
theorem wt_one (x : V) : 1 ≤ T.wt x := by
  obtain ⟨k, n, s, a, c, e, l, rfl⟩ := V.ex x
  rw [wt_ofV]
  omega
theorem wt_sub (x : V) : T.wts x.l + 1 ≤ T.wt x := by
  obtain ⟨k, n, s, a, c, e, l, rfl⟩ := V.ex x
  rw [wt_ofV, V.l_of]
  omega
theorem wts_in {x : T} {l : List T} (h : x ∈ l) : T.wt x ≤ T.wts l := by
  induction l with
  | nil => cases h
  | cons y l ih =>
    rw [T.wts]
    rcases List.mem_cons.1 h with rfl | h
    · omega
    · have := ih h; omega
theorem wt_leaf (k n : Int) (s : ByteArray) : T.wt (leaf k n s) = 1 + s.size / 64 := by
  unfold leaf
  rw [wt_ofV]
  rfl
def gw (g : List T) (i : Nat) : Nat := ((g[i]?).map T.wt).getD 0
theorem wts_le (C : Nat) : ∀ (ts g : List T), (∀ i (h : i < ts.length), T.wt ts[i] ≤ C * gw g i + 2) → T.wts ts ≤ C * T.wts g + 2 * ts.length := by
  intro ts
  induction ts with
  | nil => intro g _; simp [T.wts]
  | cons t ts ih =>
    intro g h
    rw [T.wts, List.length_cons]
    cases g with
    | nil =>
      have h0 := h 0 (by simp)
      have h1 := ih [] (fun i hi => by
        have := h (i + 1) (by simpa using hi)
        simpa [gw] using this)
      simp [gw] at h0
      simp only [T.wts] at h1 ⊢
      omega
    | cons x g =>
      have h0 := h 0 (by simp)
      have h1 := ih g (fun i hi => by
        have := h (i + 1) (by simpa using hi)
        simpa [gw] using this)
      simp [gw] at h0
      rw [T.wts, Nat.mul_add]
      omega
theorem wt_d {f : FS} (h : okFS f = true) : T.wt f.d ≤ 2 := by
  unfold okFS at h
  simp only [Bool.and_eq_true, decide_eq_true_eq] at h
  unfold FS.d
  rw [wt_leaf]
  omega
theorem wt_nul : T.wt nul = 1 := by
  unfold nul
  rw [wt_leaf]
  rfl
theorem wt_fill {re : T → T × Int} {C : Nat} (hC : 2 ≤ C) (hre : ∀ z, T.wt (re z).1 ≤ C * T.wt z) {f : FS} (hf : okFS f = true) (x : T) : T.wt (fillT re f x).1 ≤ C * T.wt x + 2 := by
  have hx := wt_one x
  have hd := wt_d hf
  have hm : 2 * T.wt x ≤ C * T.wt x := Nat.mul_le_mul_right _ hC
  have hn := wt_nul
  unfold fillT
  split
  · split
    · show T.wt nul ≤ _; omega
    · show T.wt f.d ≤ _; omega
  split
  · show T.wt x ≤ _; omega
  split
  · split
    · show T.wt (T.of 23 0 ⟨#[]⟩ 20 [x]) ≤ _
      rw [T.wt_of, T.wts, T.wts]
      have : (⟨#[]⟩ : ByteArray).size = 0 := rfl
      omega
    · split
      · show T.wt x ≤ _; omega
      · show T.wt nul ≤ _; omega
  split
  · split
    · split
      · have := hre x; omega
      · show T.wt nul ≤ _; omega
    · show T.wt nul ≤ _; omega
  · split
    · show T.wt x ≤ _; omega
    · show T.wt nul ≤ _; omega
theorem wt_fill_nul {re : T → T × Int} {f : FS} (hf : okFS f = true) : T.wt (fillT re f nul).1 ≤ 2 := by
  have hd := wt_d hf
  have hn := wt_nul
  unfold fillT
  rw [if_pos (show V.k nul = 0 from rfl)]
  split
  · show T.wt nul ≤ _; omega
  · show T.wt f.d ≤ _; omega
theorem wts_unp {re : T → T × Int} {C : Nat} (hC : 2 ≤ C) (hre : ∀ z, T.wt (re z).1 ≤ C * T.wt z) (x : T) : T.wts (unpT re x).1.2 ≤ C * T.wt x + 40 := by
  by_cases hz : (unpT re x).2.2 = 0
  · obtain ⟨k, fs, d, y, hk, hl, h24, hf, h21, hle, hu⟩ := unpT_ok hz
    have hr := (rowT_ok (by rw [← hu]; exact hz)).1
    rw [hu, hr]
    obtain ⟨h20, hok⟩ := ftab_ok hf
    have h := wts_le C ((fillsT re fs y.l).map Prod.fst) y.l (fun i hi => by
      have hi1 : i < (fillsT re fs y.l).length := by simpa using hi
      have hi2 : i < fs.length := by rw [fillsT_len] at hi1; exact hi1
      rw [List.getElem_map, fillsT_get re fs y.l i hi1 hi2]
      have ho := hok _ (List.getElem_mem hi2)
      unfold gw
      cases hy : y.l[i]? with
      | none => simpa using wt_fill_nul ho
      | some z => simpa using wt_fill hC hre ho z)
    have h1 : T.wts y.l ≤ T.wt x := by
      have e1 := wt_sub y
      have e2 := wt_sub x
      have e3 : T.wt y ≤ T.wts x.l := wts_in (by rw [hl]; simp)
      omega
    have h2 := Nat.mul_le_mul_left C h1
    rw [List.length_map, fillsT_len] at h
    show T.wts ((fillsT re fs y.l).map Prod.fst) ≤ _
    omega
  · have e : (unpT re x).1.2 = [] := by
      have hrow : ∀ k rs, (rowT k rs).2.2 ≠ 0 → (rowT k rs).1.2 = [] := fun k rs h => by
        unfold rowT at h ⊢
        cases hb : badAt rs with
        | none => rw [hb] at h; exact absurd rfl h
        | some i => rfl
      unfold unpT at hz ⊢
      cases hk : kindV x.k x.l with
      | none => rfl
      | some k =>
        rw [hk] at hz
        simp only at hz ⊢
        cases hf : ftab k with
        | none => rfl
        | some fs =>
          rw [hf] at hz
          simp only at hz ⊢
          split
          · rfl
          · split
            · rfl
            · rename_i h1 h2
              rw [if_neg h1, if_neg h2] at hz
              exact hrow _ _ hz
    rw [e]
    exact Nat.zero_le _
theorem wts_take_le (l : List T) (m : Nat) : T.wts (l.take m) ≤ T.wts l := by
  induction l generalizing m with
  | nil => simp [T.wts]
  | cons x l ih =>
    cases m with
    | zero => simp [T.wts]
    | succ m =>
      rw [List.take_succ_cons, T.wts, T.wts]
      have := ih m
      omega
theorem wts_outs (l ds : List V) : T.wts (outs l ds) ≤ T.wts l := by
  unfold outs
  induction l generalizing ds with
  | nil => simp [T.wts]
  | cons x l ih =>
    cases ds with
    | nil => simp [T.wts]
    | cons d ds =>
      rw [List.zipWith_cons_cons, T.wts, T.wts]
      have h1 := ih ds
      have h2 := wt_one x
      have h3 : T.wt (leaf 0 0 ⟨#[]⟩) = 1 := wt_nul
      split
      · omega
      · omega
theorem wt_laid (k : Int) (ts : List T) : T.wt (laidT k ts) ≤ T.wts ts + 3 := by
  unfold laidT
  have h1 := wts_take_le (outs ts (dsOf k)) (saidN ts (dsOf k) ts.length)
  have h2 := wts_outs ts (dsOf k)
  have h3 : (⟨#[]⟩ : ByteArray).size = 0 := rfl
  have h4 := wt_leaf 5 k ⟨#[]⟩
  rw [T.wt_of, T.wts, T.wts, T.wts, T.wt_of]
  omega
theorem wt_rep : ∀ (N : Nat) (x : T), T.wt (repT N x).1 ≤ (43 * N + 2) * T.wt x := by
  intro N
  induction N with
  | zero =>
    intro x
    have := wt_one x
    have h : T.wt (repT 0 x).1 = 1 := wt_nul
    omega
  | succ N ih =>
    intro x
    have hx := wt_one x
    have hu := wts_unp (re := repT N) (C := 43 * N + 2) (by omega) ih x
    have hm : (43 * (N + 1) + 2) * T.wt x = (43 * N + 2) * T.wt x + 43 * T.wt x := by
      rw [show 43 * (N + 1) + 2 = (43 * N + 2) + 43 by omega, Nat.add_mul]
    rw [repT]
    split
    · have := wt_nul
      show T.wt nul ≤ _
      omega
    · have := wt_laid (unpT (repT N) x).1.1 (unpT (repT N) x).1.2
      show T.wt (laidT _ _) ≤ _
      omega
theorem wt_rep' (x : T) : T.wt (rep x).1 ≤ 1722 * T.wt x := wt_rep 40 x
theorem wts_unpR (v : V) : T.wts (unpR v).1.2 ≤ 1722 * T.wt v.t + 40 := by
  unfold unpR
  split
  · exact Nat.zero_le _
  · exact wts_unp (by omega) wt_rep' v.t
theorem wt_packR (k : Int) (l : List V) : T.wt (packR k l).1 ≤ 1722 * T.wts (V.ts l) + 43 := by
  have hn := wt_nul
  unfold packR packT
  cases hf : ftab k with
  | none => show T.wt nul ≤ _; omega
  | some fs =>
    simp only
    split
    · show T.wt nul ≤ _; omega
    · rename_i hlen
      have hlen : l.length = fs.length := by simpa using hlen
      unfold endT
      split
      · show T.wt nul ≤ _; omega
      · split
        · show T.wt nul ≤ _; omega
        · rename_i hz _
          have hz : (rowT k (List.zipWith (chkV rep) fs l)).2.2 = 0 := by simpa using hz
          have hr := (rowT_ok hz).1
          rw [hr]
          have h1 := wt_laid k ((List.zipWith (chkV rep) fs l).map Prod.fst)
          obtain ⟨h20, hok⟩ := ftab_ok hf
          have h := wts_le 1722 ((List.zipWith (chkV rep) fs l).map Prod.fst) (V.ts l) (fun i hi => by
            have hi1 : i < fs.length := by simp [hlen] at hi; exact hi
            have hi2 : i < l.length := by omega
            have ho := hok _ (List.getElem_mem hi1)
            have e : gw (V.ts l) i = T.wt l[i].t := by
              unfold gw
              rw [V.ts_map, List.getElem?_map, List.getElem?_eq_getElem hi2]
              rfl
            rw [List.getElem_map, List.getElem_zipWith, e]
            unfold chkV
            split
            · show T.wt nul ≤ _; omega
            · split
              · show T.wt nul ≤ _; omega
              · split
                · show T.wt nul ≤ _; omega
                · exact wt_fill (by omega) wt_rep' ho _)
          have h2 : ((List.zipWith (chkV rep) fs l).map Prod.fst).length = fs.length := by simp [hlen]
          rw [h2] at h
          show T.wt (laidT k ((List.zipWith (chkV rep) fs l).map Prod.fst)) ≤ _
          omega
theorem slots_eq (r : V) : r.slots = V.slotss r.l ++ [.slice r.a r.l.length r.c] := by
  obtain ⟨k, n, s, a, c, e, l, rfl⟩ := V.ex r
  rw [V.slots_of, V.l_of, V.a_of, V.c_of]
theorem takeAll_next {p : Nat} {S : List Value} {W wr : World} (h : Bk p none S W wr) (l : List V) (a : Option Addr) (c : Nat) (Q : Nat → Prop) (hx : LiesIn Q wr (V.of 0 0 ⟨#[]⟩ a c 0 l)) (hQ : ∀ b, Q b → b < W.heap.size ∧ b ≠ p) (hS : S.length + 1 + T.wts (V.ts l) ≤ 1099511627776) :
    Calls Tryz.prog 30 #[.pointer (some ⟨p, 0, none⟩), .slice a l.length c] wr fun e w' => e = .returned (.tuple #[]) ∧ Hid (Bk p none (S ++ V.slotss l ++ [.slice a l.length c]) W w') := by
  obtain ⟨A1, h1, hA⟩ := h.here
  have hs := h.size
  refine (takeAll_any l (fun x _ => take_any x) a c p A1 S Q wr h1 (LiesIn.ok hx).c (LiesIn.ok hx).l (LiesIn.row hx) (LiesIn.sub hx) (fun b hb => ⟨by have := (hQ b hb).1; omega, (hQ b hb).2, fun e => ?_⟩) hS).mono (fun e w' q => ⟨q.1, h.trans hA q.2.out⟩)
  rcases hA with rfl | ⟨g, rfl, hg⟩
  · cases e
  · cases e
    have := (hQ _ hb).1
    omega
end Go.Proofs.YtgldcchleoklcaaGreatDoor
