
/- Stages 19, 20: the document's disk: New, Up, Start, Arm, Crash, Files. -/
import Derived.Test.YtgkdecjlanbmhaaJXj
namespace Go.Proofs.Ytgkdecjlanbmhaa
open Go.RowKit Go.Maps Go.MuLone
set_option linter.unusedVariables false
set_option linter.unusedSimpArgs false
theorem rnew_no (w : World) (n : Int) (h : n < 0 ∨ 16777216 < n) : Calls Try.prog 8 #[.int .i64 n] w fun e w' => e = .returned (.pointer none) ∧ w' = w := by
  rcases h with h | h
  · have hd : decide (n < 0) = true := decide_eq_true h
    go_enter Try.func8, Try.ntmps8
    go_wp2
    go_ret
    exact ⟨rfl, rfl⟩
  · have h0 : ¬ n < 0 := by omega
    have hd : decide (n < 0) = false := decide_eq_false h0
    have he : decide (16777216 < n) = true := decide_eq_true h
    go_enter Try.func8, Try.ntmps8
    go_wp2
    go_ret
    exact ⟨rfl, rfl⟩
theorem rnew_any (w : World) (n : Int) (h0 : 0 ≤ n) (h1 : n ≤ 16777216) : Calls Try.prog 8 #[.int .i64 n] w fun e w' => e = .returned (.pointer (some ⟨w.heap.size, 0, none⟩)) ∧ RD w' w.heap.size w.heap.size (.slice none 0 0) (dx0 n) [] ∧ Below w.heap.size w w' := by
  have z0 : ¬ n < 0 := by omega
  have z1 : ¬ 16777216 < n := by omega
  have hd : decide (n < 0) = false := decide_eq_false z0
  have he : decide (16777216 < n) = false := decide_eq_false z1
  go_enter Try.func8, Try.ntmps8
  go_wp2
  go_ret
  refine ⟨rfl, ⟨⟨0, fun h => absurd rfl h, heap_new _ _⟩, Nat.le_refl _, .inl ⟨rfl, rfl⟩, fun o ho => absurd ho (by simp), by simp⟩, bel1 (Below.refl _ _) (Nat.le_refl _) _⟩
section
variable {w w' : World} {B r : Nat} {lv : Value} {x : Dx} {W : List Fo}
theorem up_r (h : RD w B r lv x W) : Calls Try.prog 11 #[.pointer (some ⟨r, 0, none⟩)] w fun e w' => e = .returned (.bool (!x.down)) ∧ w' = w := by
  obtain ⟨_, _, _, _, c2, _⟩ := h.cells
  obtain ⟨b, hb⟩ : ∃ b, x.down = b := ⟨_, rfl⟩
  rw [hb] at c2 ⊢
  clear h hb
  go_enter Try.func11, Try.ntmps11
  go_wp2
  go_ret
  exact ⟨rfl, rfl⟩
theorem start_r (h : XD w B r lv x W) : Calls Try.prog 39 #[.pointer (some ⟨r, 0, none⟩)] w fun e w' => e = .returned (.tuple #[]) ∧ XN w B r lv { x with down := false } (W.map (·.1)) w' := by
  obtain ⟨ac, ha, hb⟩ := h.rd.blk
  have c2 : w.cell? ⟨r, 2, none⟩ = some (.bool x.down) := cellOf hb 2 _ rfl
  have f2 := frozen_of hb 2
  have HR := hide (h.rd.put hb 2 (.bool false) { x with down := false } ac ha rfl)
  have HX := hide h
  clear h ha hb
  go_enter Try.func39, Try.ntmps39
  go_wp2
  first | go_end0 | refine bodyPost_ret (results_none rfl _ _ _) rfl ?_
  exact ⟨rfl, lv, W, ⟨HR.out, start_ok HX.out.ok, HX.out.few⟩, List.Perm.refl _, Kp.setCell (S := Wr r lv) (Kp.refl _ w) (.inl rfl) _, fun g e => .inl e⟩
theorem crash_r (h : XD w B r lv x W) (k : Int) (hk : -9223372036854775808 ≤ k ∧ k < 9223372036854775808) : Calls Try.prog 38 #[.pointer (some ⟨r, 0, none⟩), .int .i64 k] w fun e w' => e = .returned (.tuple #[]) ∧ XN w B r lv (dCr x (W.map (·.1)) k).1 (dCr x (W.map (·.1)) k).2 w' := by
  obtain ⟨_, _, _, _, c2, _⟩ := h.rd.cells
  have HX := hide h
  cases hd : x.down
  · rw [hd] at c2
    have HF := hide (fall_r h.rd (fun o ho => ⟨(h.size o ho).1, by have := (h.size o ho).2; omega⟩) (by have := h.few; omega) k hk (usd ((W.map (·.1)).map (fl k)) : Int))
    have HD : Hid (dCr x (W.map (·.1)) k = ({ x with down := true, left := -1, used := (usd ((W.map (·.1)).map (fl k)) : Int) }, (W.map (·.1)).map (fl k))) := by show _ = _; unfold dCr; rw [hd]; rfl
    have HO : Hid (DOk { x with down := true, left := -1, used := (usd ((W.map (·.1)).map (fl k)) : Int) } ((W.map (·.1)).map (fl k))) := h.ok.fall k
    clear h hd hk
    go_enter Try.func38, Try.ntmps38
    go_wp2_with fail
    refine HF.out.mono ?_
    rintro e w1 ⟨rfl, W', h1, h2, h3⟩
    have HZ := hide (And.intro h1 (And.intro h2 h3))
    clear h1 h2 h3
    go_wp2
    first | go_end0 | refine bodyPost_ret (results_none rfl _ _ _) rfl ?_
    rw [HD.out]
    have hlen : W'.length = W.length := by have := congrArg List.length HZ.out.2.1; simpa using this
    exact ⟨rfl, lv, W', ⟨HZ.out.1, by rw [HZ.out.2.1]; exact HO.out, by rw [hlen]; exact HX.out.few⟩, by rw [HZ.out.2.1], HZ.out.2.2, fun g e => .inl e⟩
  · rw [hd] at c2
    have HD : Hid (dCr x (W.map (·.1)) k = (x, W.map (·.1))) := by show _ = _; unfold dCr; rw [hd]; rfl
    clear h hd hk
    go_enter Try.func38, Try.ntmps38
    go_wp2
    first | go_end0 | refine bodyPost_ret (results_none rfl _ _ _) rfl ?_
    rw [HD.out]
    exact ⟨rfl, HX.out.same⟩
set_option maxHeartbeats 1000000 in
theorem arm_r (h : XD w B r lv x W) (a k : Int) (ha : -9223372036854775808 ≤ a ∧ a < 9223372036854775808) (hk : -9223372036854775808 ≤ k ∧ k < 9223372036854775808) : Calls Try.prog 37 #[.pointer (some ⟨r, 0, none⟩), .int .i64 a, .int .i64 k] w fun e w' => e = .returned (.tuple #[]) ∧ XN w B r lv (dArm x a k) (W.map (·.1)) w' := by
  have HX := hide h
  obtain ⟨ac, hac, hb⟩ := h.rd.blk
  have c2 : w.cell? ⟨r, 2, none⟩ = some (.bool x.down) := cellOf hb 2 _ rfl
  have c3 : w.cell? ⟨r, 3, none⟩ = some (.bool (decide (x.left ≠ -1))) := cellOf hb 3 _ rfl
  have c4 : w.cell? ⟨r, 4, none⟩ = some (.int .i64 ac) := cellOf hb 4 _ rfl
  have c5 : w.cell? ⟨r, 5, none⟩ = some (.int .i64 x.keep) := cellOf hb 5 _ rfl
  have f3 := frozen_of hb 3
  cases hd : x.down
  · rw [hd] at c2
    have HD : Hid (dArm x a k = { x with left := max a (-1), keep := k }) := by show _ = _; unfold dArm; rw [hd]; rfl
    have hb1 := blk_set hb 3 (.bool (decide (0 ≤ a)))
    have hb2 := blk_set hb1 4 (.int .i64 a)
    have f4 := frozen_of hb1 4
    have f5 := frozen_of hb2 5
    have hdec : decide (max a (-1) ≠ -1) = decide (0 ≤ a) := by
      by_cases h0 : 0 ≤ a
      · rw [decide_eq_true h0, decide_eq_true (show max a (-1) ≠ -1 by omega)]
      · rw [decide_eq_false h0, decide_eq_false (show ¬ max a (-1) ≠ -1 by omega)]
    have HR : Hid (RD (((w.setCell ⟨r, 3, none⟩ (.bool (decide (0 ≤ a)))).setCell ⟨r, 4, none⟩ (.int .i64 a)).setCell ⟨r, 5, none⟩ (.int .i64 k)) B r lv { x with left := max a (-1), keep := k } W) := by
      have hb3 := blk_set hb2 5 (.int .i64 k)
      have ho : ∀ q, q ≠ r → (((w.setCell ⟨r, 3, none⟩ (.bool (decide (0 ≤ a)))).setCell ⟨r, 4, none⟩ (.int .i64 a)).setCell ⟨r, 5, none⟩ (.int .i64 k)).heap[q]? = w.heap[q]? := fun q hq => by
        rw [blk_set_other _ _ _ _ hq, blk_set_other _ _ _ _ hq, blk_set_other _ _ _ _ hq]
      have h9 := h.rd
      refine ⟨⟨a, fun h0 => ?_, ?_⟩, h9.lo, h9.row.at (fun q e => ho q (fun e2 => h9.nr (by rw [e, e2]))), fun o hq => ⟨(h9.dat o hq).1.same (by simp) (fun g e => ho g ((h9.dat o hq).2 g e).1), (h9.dat o hq).2⟩, h9.srt⟩
      · show a = max a (-1)
        have h0' : max a (-1) ≠ -1 := h0
        omega
      · rw [hb3]
        unfold rxA
        show some (Obj.cells #[lv, .int .i64 x.room, .bool x.down, .bool (decide (0 ≤ a)), .int .i64 a, .int .i64 k] 79 (0, 0)) = some (Obj.cells #[lv, .int .i64 x.room, .bool x.down, .bool (decide (max a (-1) ≠ -1)), .int .i64 a, .int .i64 k] 79 (0, 0))
        rw [hdec]
    have hao := arm_ok (a := a) (k := k) h.ok ha.2 hk
    have HAO := hide hao
    clear h hb hb1 hb2 hac hdec hd hao ha hk
    go_enter Try.func37, Try.ntmps37
    go_wp2
    first | go_end0 | refine bodyPost_ret (results_none rfl _ _ _) rfl ?_
    have h1 := HAO.out
    rw [HD.out] at h1 ⊢
    exact ⟨rfl, lv, W, ⟨HR.out, h1, HX.out.few⟩, List.Perm.refl _, Kp.setCell (S := Wr r lv) (Kp.setCell (S := Wr r lv) (Kp.setCell (S := Wr r lv) (Kp.refl _ w) (.inl rfl) _) (.inl rfl) _) (.inl rfl) _, fun g e => .inl e⟩
  · rw [hd] at c2
    have HD : Hid (dArm x a k = x) := by show _ = _; unfold dArm; rw [hd]; rfl
    clear h hd hb hac ha hk
    go_enter Try.func37, Try.ntmps37
    go_wp2
    first | go_end0 | refine bodyPost_ret (results_none rfl _ _ _) rfl ?_
    rw [HD.out]
    exact ⟨rfl, HX.out.same⟩
end
end Go.Proofs.Ytgkdecjlanbmhaa
