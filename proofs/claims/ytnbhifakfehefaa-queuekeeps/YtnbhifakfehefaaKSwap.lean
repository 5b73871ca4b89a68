
/- Stage 17: Swap over a line; the methods that are called through an interface. -/
import Derived.Test.YtnbhifakfehefaaKHeapM
namespace Go.Proofs.Ytnbhifakfehefaa
open Go.RowKit
set_option linter.unusedVariables false
set_option linter.unusedSimpArgs false
theorem swW_g {w : World} {g i j p q : Nat} {cur : Array Value} {t : TypeId} {fr : Nat × Nat} (hg : w.heap[g]? = some (.cells cur t fr)) (hp : g ≠ p) (hq : g ≠ q) : (swW w g i j p q).heap[g]? = some (.cells ((cur.setIfInBounds i (ptr q)).setIfInBounds j (ptr p)) t fr) := by
  unfold swW
  show ((((w.setCell ⟨g, i, none⟩ (ptr q)).setCell ⟨g, j, none⟩ (ptr p)).drew.setCell ⟨q, 7, none⟩ (.int .i64 (i : Int))).setCell ⟨p, 7, none⟩ (.int .i64 (j : Int))).heap[g]? = _
  rw [blk_set_other _ ⟨p, 7, none⟩ _ g hp, blk_set_other _ ⟨q, 7, none⟩ _ g hq]
  exact blk_set _ g j _ (blk_set w g i _ hg)
theorem swW_other {w : World} {g i j p q k : Nat} (h1 : k ≠ g) (h2 : k ≠ p) (h3 : k ≠ q) : (swW w g i j p q).heap[k]? = w.heap[k]? := by
  unfold swW
  show ((((w.setCell ⟨g, i, none⟩ (ptr q)).setCell ⟨g, j, none⟩ (ptr p)).drew.setCell ⟨q, 7, none⟩ (.int .i64 (i : Int))).setCell ⟨p, 7, none⟩ (.int .i64 (j : Int))).heap[k]? = _
  rw [blk_set_other _ ⟨p, 7, none⟩ _ k h2, blk_set_other _ ⟨q, 7, none⟩ _ k h3]
  show ((w.setCell ⟨g, i, none⟩ (ptr q)).setCell ⟨g, j, none⟩ (ptr p)).heap[k]? = _
  rw [blk_set_other _ ⟨g, j, none⟩ _ k h1, blk_set_other _ ⟨g, i, none⟩ _ k h1]
theorem ib_pos {w : World} {b : Nat} {x : It} (h : IB w b x) (v : Int) : IB (w.setCell ⟨b, 7, none⟩ (.int .i64 v)) b (x.at v) := by
  unfold IB at *
  rw [blk_set w b 7 _ h]
  simp [It.cells, It.at]
theorem swW_p {w : World} {g i j p q : Nat} {x : It} (h : IB w p x) (hp : p ≠ g) (hpq : p ≠ q) : IB (swW w g i j p q) p (x.at (j : Int)) := by
  unfold swW
  show IB ((((w.setCell ⟨g, i, none⟩ (ptr q)).setCell ⟨g, j, none⟩ (ptr p)).drew.setCell ⟨q, 7, none⟩ (.int .i64 (i : Int))).setCell ⟨p, 7, none⟩ (.int .i64 (j : Int))) p _
  refine ib_pos ?_ _
  unfold IB
  rw [blk_set_other _ ⟨q, 7, none⟩ _ p hpq]
  show ((w.setCell ⟨g, i, none⟩ (ptr q)).setCell ⟨g, j, none⟩ (ptr p)).heap[p]? = _
  rw [blk_set_other _ ⟨g, j, none⟩ _ p hp, blk_set_other _ ⟨g, i, none⟩ _ p hp]
  exact h
theorem swW_q {w : World} {g i j p q : Nat} {x : It} (h : IB w q x) (hq : q ≠ g) (hpq : p ≠ q) : IB (swW w g i j p q) q (x.at (i : Int)) := by
  unfold swW
  show IB ((((w.setCell ⟨g, i, none⟩ (ptr q)).setCell ⟨g, j, none⟩ (ptr p)).drew.setCell ⟨q, 7, none⟩ (.int .i64 (i : Int))).setCell ⟨p, 7, none⟩ (.int .i64 (j : Int))) q _
  unfold IB
  rw [blk_set_other _ ⟨p, 7, none⟩ _ q (fun e => hpq e.symm)]
  refine ib_pos ?_ _
  show ((w.setCell ⟨g, i, none⟩ (ptr q)).setCell ⟨g, j, none⟩ (ptr p)).heap[q]? = _
  rw [blk_set_other _ ⟨g, j, none⟩ _ q hq, blk_set_other _ ⟨g, i, none⟩ _ q hq]
  exact h
theorem swW_size (w : World) (g i j p q : Nat) : (swW w g i j p q).heap.size = w.heap.size := by simp [swW]
theorem at_at (x : It) (a b : Int) : (x.at a).at b = x.at b := rfl
theorem Lx.ne {w : World} {B g n cap : Nat} {H : List Nat} {E : Nat → It} (h : Lx w B (.slice (some ⟨g, 0, none⟩) n cap) H E) (k : Nat) (hk : k < H.length) : g ≠ H[k] := by
  intro e
  have h1 := item_cells h k hk
  rw [← e] at h1
  rcases h.row.2 with ⟨h', _⟩ | ⟨g', cap', cur, h', _, h2, _⟩
  · cases h'
  · simp only [Value.slice.injEq, Option.some.injEq, Addr.mk.injEq, and_true] at h'
    obtain ⟨rfl, _⟩ := h'
    unfold IB at h1
    rw [h1] at h2
    simp at h2
theorem hv_eq (H : List Nat) (k : Nat) (h : k < H.length) : hv H k = H[k] := by simp [hv, List.getD_eq_getElem?_getD, h]
/-- a Swap of two places -/
theorem swap_line (B : Nat) (F : Value) (H : List Nat) (E : Nat → It) (w : World) (h : Lx w B F H E) (i j : Nat) (hi : i < H.length) (hj : j < H.length) (hij : i ≠ j) :
    Calls Try.prog 93 #[F, .int .i64 (i : Int), .int .i64 (j : Int)] w fun e w' => e = .returned (.tuple #[]) ∧ Hid (Lx w' B F (sw H i j) E ∧ Kp (inF F H) w w') := by
  obtain ⟨g, cap, rfl, ci, fi, hcap⟩ := h.cell i hi
  obtain ⟨g', cap', e, cj, fj, _⟩ := h.cell j hj
  simp only [Value.slice.injEq, Option.some.injEq, Addr.mk.injEq, and_true, true_and] at e
  obtain ⟨rfl, rfl⟩ := e
  have hpq : H[i] ≠ H[j] := fun e => hij ((List.getElem_inj h.nd).1 e)
  have n1 := h.ne i hi
  have n2 := h.ne j hj
  refine (swap_raw g H.length cap i j H[i] H[j] _ _ w hi hj hij h.len ci cj fi fj (item_cells h i hi) (item_cells h j hj) hpq n1 n2).mono ?_
  rintro e w' ⟨rfl, rfl⟩
  refine ⟨rfl, ⟨?_, ?_, ?_, ?_⟩, ?_⟩
  · rcases h.row.2 with ⟨h', _⟩ | ⟨g', cap', cur, h', hBg, h2, h3, h4, h5, h6⟩
    · cases h'
    · simp only [Value.slice.injEq, Option.some.injEq, Addr.mk.injEq, and_true, true_and] at h'
      obtain ⟨rfl, rfl⟩ := h'
      rw [sw_len]
      refine ⟨by simp [sw_len], .inr ⟨g, cap, _, rfl, hBg, swW_g h2 n1 n2, h3, h4, by simpa using h5, ?_⟩⟩
      rw [Nat.mul_one] at h6 ⊢
      rw [Array.toList_setIfInBounds, Array.toList_setIfInBounds, List.take_set, List.take_set, h6]
      unfold sw
      rw [List.map_set, List.map_set, hv_eq H j hj, hv_eq H i hi]
  · intro k b hk
    have hkl : k < (sw H i j).length := (List.getElem?_eq_some_iff.1 hk).1
    rw [hv_get _ _ hkl, Option.some.injEq, hv_sw H i j k hi hj] at hk
    rw [sw_len] at hkl
    by_cases e1 : k = j
    · rw [if_pos e1, hv_eq H i hi] at hk
      subst hk
      subst e1
      have := swW_p (g := g) (i := i) (j := k) (q := H[k]) (item_cells h i hi) (fun e => n1 e.symm) hpq
      rwa [at_at] at this
    · rw [if_neg e1] at hk
      by_cases e2 : k = i
      · rw [if_pos e2, hv_eq H j hj] at hk
        subst hk
        subst e2
        have := swW_q (g := g) (i := k) (j := j) (p := H[k]) (item_cells h j hj) (fun e => n2 e.symm) hpq
        rwa [at_at] at this
      · rw [if_neg e2, hv_eq H k hkl] at hk
        subst hk
        have q1 : H[k] ≠ H[i] := fun e => e2 ((List.getElem_inj h.nd).1 e)
        have q2 : H[k] ≠ H[j] := fun e => e1 ((List.getElem_inj h.nd).1 e)
        exact (swW_other (fun e => h.ne k hkl e.symm) q1 q2).trans (item_cells h k hkl)
  · exact (sw_perm H i j hi hj).nodup_iff.2 h.nd
  · rw [sw_len]; exact h.len
  · refine ⟨rfl, rfl, rfl, by rw [swW_size]; exact Nat.le_refl _, fun k hk hs => swW_other (fun e => hs (.inl ?_)) (fun e => hs (.inr ?_)) (fun e => hs (.inr ?_))⟩
    · rw [e]; rfl
    · rw [e]; exact List.getElem_mem _
    · rw [e]; exact List.getElem_mem _
/-- Less, over a line -/
theorem less_line (B : Nat) (F : Value) (H : List Nat) (E : Nat → It) (w : World) (h : Lx w B F H E) (i j : Nat) (hi : i < H.length) (hj : j < H.length) :
    Calls Try.prog 92 #[F, .int .i64 (i : Int), .int .i64 (j : Int)] w fun e w' => e = .returned (.bool (decide (ordZ (E (hv H i)) (E (hv H j)) < 0))) ∧ Below w.heap.size w w' := by
  obtain ⟨g, cap, rfl, ci, fi, hcap⟩ := h.cell i hi
  obtain ⟨g', cap', e, cj, fj, _⟩ := h.cell j hj
  simp only [Value.slice.injEq, Option.some.injEq, Addr.mk.injEq, and_true, true_and] at e
  obtain ⟨rfl, rfl⟩ := e
  refine (less_raw g H.length cap i j H[i] H[j] _ _ w hi hj h.len ci cj (item_cells h i hi) (item_cells h j hj)).mono ?_
  rintro e w' ⟨rfl, hb⟩
  refine ⟨?_, hb⟩
  rw [hv_eq H i hi, hv_eq H j hj]
  have e1 : ordZ ((E H[i]).at (i : Int)) ((E H[j]).at (j : Int)) = ordZ (E H[i]) (E H[j]) := rfl
  rw [e1]
theorem Lx.below {w w' : World} {B : Nat} {F : Value} {H : List Nat} {E : Nat → It} (h : Lx w B F H E) (hb : Below w.heap.size w w') : Lx w' B F H E :=
  ⟨h.row.kept (row := none) ⟨hb.os, hb.tape, hb.output, hb.size, fun k hk _ => hb.block k hk⟩ (by cases h0 : F.ownBlock <;> simp), fun k b hk => (hb.block b (h.it k b hk).lt).trans (h.it k b hk), h.nd, h.len⟩
theorem mLess0 (w : World) (qb : Nat) : (method 240 72 (.pointer (some ⟨qb, 7, none⟩)) "Less").run Try.prog w = ((do let v ← loadVar 61 ⟨qb, 7, none⟩; pure (92, v)) : Sem (FuncId × Value)).run Try.prog w := by kernel_rfl
theorem mLess (w : World) (qb : Nat) (F : Value) (h : w.cell? ⟨qb, 7, none⟩ = some F) : (method 240 72 (.pointer (some ⟨qb, 7, none⟩)) "Less").run Try.prog w = .ok (92, F) w := by
  rw [mLess0]
  simp [go_sem, h]
theorem mSwap0 (w : World) (qb : Nat) : (method 240 72 (.pointer (some ⟨qb, 7, none⟩)) "Swap").run Try.prog w = ((do let v ← loadVar 61 ⟨qb, 7, none⟩; pure (93, v)) : Sem (FuncId × Value)).run Try.prog w := by kernel_rfl
theorem mSwap (w : World) (qb : Nat) (F : Value) (h : w.cell? ⟨qb, 7, none⟩ = some F) : (method 240 72 (.pointer (some ⟨qb, 7, none⟩)) "Swap").run Try.prog w = .ok (93, F) w := by
  rw [mSwap0]
  simp [go_sem, h]
theorem mLen0 (w : World) (qb : Nat) : (method 240 72 (.pointer (some ⟨qb, 7, none⟩)) "Len").run Try.prog w = ((do let v ← loadVar 61 ⟨qb, 7, none⟩; pure (91, v)) : Sem (FuncId × Value)).run Try.prog w := by kernel_rfl
theorem mLen (w : World) (qb : Nat) (F : Value) (h : w.cell? ⟨qb, 7, none⟩ = some F) : (method 240 72 (.pointer (some ⟨qb, 7, none⟩)) "Len").run Try.prog w = .ok (91, F) w := by
  rw [mLen0]
  simp [go_sem, h]
end Go.Proofs.Ytnbhifakfehefaa
