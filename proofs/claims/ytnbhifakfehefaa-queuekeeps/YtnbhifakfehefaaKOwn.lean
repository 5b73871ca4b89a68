
/- Stage 17: own, mayBe. -/
import Derived.Test.YtnbhifakfehefaaKByte
namespace Go.Proofs.Ytnbhifakfehefaa
open Go.RowKit
set_option linter.unusedVariables false
set_option linter.unusedSimpArgs false
/-- a row of bytes is not turned by a store into another block -/
theorem Ob.set {B : Nat} {w : World} {v : Value} {l : List Nat} (h : Ob B w v l) {b o : Nat} (hne : v.ownBlock ≠ some b) (u : Value) : Ob B (w.setCell ⟨b, o, none⟩ u) v l := by
  refine ⟨⟨h.1.1, ?_⟩, h.2⟩
  rcases h.1.2 with hn | ⟨g, cap, cur, rfl, hbg, hg, hrest⟩
  · exact .inl hn
  · refine .inr ⟨g, cap, cur, rfl, hbg, ?_, hrest⟩
    rw [blk_set_other _ ⟨b, o, none⟩ _ g (fun e => hne (congrArg some e))]
    exact hg
theorem Ob.ne {B : Nat} {w : World} {v : Value} {l : List Nat} (h : Ob B w v l) {b : Nat} {cur : Array Value} {t : TypeId} {fr : Nat × Nat} (hb : w.heap[b]? = some (.cells cur t fr)) (ht : t ≠ 5) : v.ownBlock ≠ some b := fun e => by
  rcases h.1.2 with ⟨rfl, _⟩ | ⟨g, cap, cur', rfl, hbg, hg, hrest⟩
  · cases e
  · simp only [Value.ownBlock, Option.some.injEq] at e
    subst e
    rw [hb] at hg
    simp only [Option.some.injEq, Obj.cells.injEq] at hg
    exact ht hg.2.1
theorem ent_cells {w : World} {b : Nat} {v0 v1 v2 v3 v4 v5 v6 : Value} {t : TypeId} {fr : Nat × Nat} (h : w.heap[b]? = some (.cells #[v0, v1, v2, v3, v4, v5, v6] t fr)) : w.cell? ⟨b, 0, none⟩ = some v0 ∧ w.cell? ⟨b, 1, none⟩ = some v1 ∧ w.cell? ⟨b, 2, none⟩ = some v2 ∧ w.cell? ⟨b, 3, none⟩ = some v3 ∧ w.cell? ⟨b, 4, none⟩ = some v4 ∧ w.cell? ⟨b, 5, none⟩ = some v5 ∧ w.cell? ⟨b, 6, none⟩ = some v6 := by
  refine ⟨?_, ?_, ?_, ?_, ?_, ?_, ?_⟩ <;> simp [World.cell?, h]
def It.put (x : It) (v : Value) : It := { x with dat := v }
set_option maxRecDepth 100000 in
set_option maxHeartbeats 4000000 in
/-- an entry in memory of its own -/
theorem own_any (x : It) (l : List Nat) (w : World) (hr : Rb w x.dat l) (hl : l.length ≤ 140737488355328) :
    Calls Try.prog 25 #[x.ent] w fun e w' => ∃ v, e = .returned (x.put v).ent ∧ Hid (Ob w.heap.size w' v l) ∧ Below w.heap.size w w' := by
  obtain ⟨a, cap, hd, hnil, hcap, hrd⟩ := hr
  unfold It.put It.ent
  rw [hd]
  simp only
  obtain ⟨W0, hW0⟩ : ∃ W0, (w.alloc (Obj.cells #[.int .i64 x.seq, .int .i64 x.pri, .int .i64 x.exp, .bool x.dur, .int .i64 x.cnt, .int .i64 x.hol, .slice a l.length cap] 37)).alloc (Obj.cells #[.int .i64 0, .int .i64 0, .int .i64 0, .bool false, .int .i64 0, .int .i64 0, .slice none 0 0] 37) = W0 := ⟨_, rfl⟩
  have hb0 : Below w.heap.size w W0 := by rw [← hW0]; exact bel1 (bel1 (Below.refl _ _) (Nat.le_refl _) _) (by simp) _
  have HR0 : Hid (Rb W0 (.slice a l.length cap) l) := ⟨a, cap, rfl, hnil, hcap, hrd.below hb0⟩
  have e0 : W0.heap[w.heap.size]? = some (.cells #[.int .i64 x.seq, .int .i64 x.pri, .int .i64 x.exp, .bool x.dur, .int .i64 x.cnt, .int .i64 x.hol, .slice a l.length cap] 37 (0, 0)) := by rw [← hW0]; exact heap_past (heap_new _ _) _
  have e1 : W0.heap[w.heap.size + 1]? = some (.cells #[.int .i64 0, .int .i64 0, .int .i64 0, .bool false, .int .i64 0, .int .i64 0, .slice none 0 0] 37 (0, 0)) := by
    rw [← hW0]
    have := heap_new (w.alloc (Obj.cells #[.int .i64 x.seq, .int .i64 x.pri, .int .i64 x.exp, .bool x.dur, .int .i64 x.cnt, .int .i64 x.hol, .slice a l.length cap] 37)) (Obj.cells #[.int .i64 0, .int .i64 0, .int .i64 0, .bool false, .int .i64 0, .int .i64 0, .slice none 0 0] 37)
    simpa using this
  have hs0 : W0.heap.size = w.heap.size + 2 := by rw [← hW0]; simp
  have HE : Hid (∀ w3, W0.grownBy w3 none → w3.heap[w.heap.size]? = some (.cells #[.int .i64 x.seq, .int .i64 x.pri, .int .i64 x.exp, .bool x.dur, .int .i64 x.cnt, .int .i64 x.hol, .slice a l.length cap] 37 (0, 0)) ∧ w3.heap[w.heap.size + 1]? = some (.cells #[.int .i64 0, .int .i64 0, .int .i64 0, .bool false, .int .i64 0, .int .i64 0, .slice none 0 0] 37 (0, 0)) ∧ w.heap.size + 1 < w3.heap.size ∧ Below w.heap.size w w3) := fun w3 hg =>
    ⟨(hg.block _ (by omega) (by simp)).trans e0, (hg.block _ (by omega) (by simp)).trans e1, by have := hg.size; omega, hb0.grown hg (by omega) (fun g e => by cases e)⟩
  have HCS : Hid (∀ w3, W0.grownBy w3 none → w3.cell? ⟨w.heap.size, 0, none⟩ = some (.int .i64 x.seq) ∧ w3.cell? ⟨w.heap.size, 1, none⟩ = some (.int .i64 x.pri) ∧ w3.cell? ⟨w.heap.size, 2, none⟩ = some (.int .i64 x.exp) ∧ w3.cell? ⟨w.heap.size, 3, none⟩ = some (.bool x.dur) ∧ w3.cell? ⟨w.heap.size, 4, none⟩ = some (.int .i64 x.cnt) ∧ w3.cell? ⟨w.heap.size, 5, none⟩ = some (.int .i64 x.hol) ∧ w3.cell? ⟨w.heap.size, 6, none⟩ = some (.slice a l.length cap) ∧ w3.frozen? ⟨w.heap.size, 6, none⟩ = false ∧ w3.cell? ⟨w.heap.size + 1, 0, none⟩ = some (.int .i64 0) ∧ w3.cell? ⟨w.heap.size + 1, 1, none⟩ = some (.int .i64 0) ∧ w3.cell? ⟨w.heap.size + 1, 2, none⟩ = some (.int .i64 0) ∧ w3.cell? ⟨w.heap.size + 1, 3, none⟩ = some (.bool false) ∧ w3.cell? ⟨w.heap.size + 1, 4, none⟩ = some (.int .i64 0) ∧ w3.cell? ⟨w.heap.size + 1, 5, none⟩ = some (.int .i64 0) ∧ w3.cell? ⟨w.heap.size + 1, 6, none⟩ = some (.slice none 0 0) ∧ w3.frozen? ⟨w.heap.size + 1, 0, none⟩ = false ∧ w3.frozen? ⟨w.heap.size + 1, 1, none⟩ = false ∧ w3.frozen? ⟨w.heap.size + 1, 2, none⟩ = false ∧ w3.frozen? ⟨w.heap.size + 1, 3, none⟩ = false ∧ w3.frozen? ⟨w.heap.size + 1, 4, none⟩ = false ∧ w3.frozen? ⟨w.heap.size + 1, 5, none⟩ = false ∧ w3.frozen? ⟨w.heap.size + 1, 6, none⟩ = false) := fun w3 hg => by
    obtain ⟨g0, g1, _, _⟩ := HE.out w3 hg
    refine ⟨?_, ?_, ?_, ?_, ?_, ?_, ?_, ?_, ?_, ?_, ?_, ?_, ?_, ?_, ?_, ?_, ?_, ?_, ?_, ?_, ?_, ?_⟩ <;> simp [World.cell?, World.frozen?, g0, g1]
  have HW0 := hide hW0
  have HB0 := hide hb0
  have HSZ : Hid (w.heap.size ≤ W0.heap.size) := by show _ ≤ _; omega
  clear hW0 e0 e1 hs0 hb0 hrd hd
  go_enter Try.func25, Try.ntmps25
  go_wp2_with (at_builtin; rw [HW0.out]; refine wpList_app _ rfl (.const (.slice none 0 0)) (.tmp 4) rfl w.heap.size _ [] rfl (Ob.nil _ _) _ l rfl HR0.out (by simp; omega) HSZ.out ?_; intro v' w3 r1 r2; obtain ⟨a', cap', rfl⟩ := row_form r1.1; have HG := hide (HE.out w3 r2); obtain ⟨t0, t1, t2, t3, t4, t5, t6, t7, t8, t9, t10, t11, t12, t13, t14, t15, t16, t17, t18, t19, t20, t21⟩ := HCS.out w3 r2; have HOB := hide r1; clear r1 r2)
  obtain ⟨g0, g1, g2, g3⟩ := HG.out
  have n0 := HOB.out.ne g0 (by decide)
  have n1 := HOB.out.ne g1 (by decide)
  have HOB2 := hide ((((((((HOB.out.set (o := 6) n0 (.slice a' l.length cap')).set (o := 0) n1 (.int .i64 x.seq)).set (o := 1) n1 (.int .i64 x.pri)).set (o := 2) n1 (.int .i64 x.exp)).set (o := 3) n1 (.bool x.dur)).set (o := 4) n1 (.int .i64 x.cnt)).set (o := 5) n1 (.int .i64 x.hol)).set (o := 6) n1 (.slice a' l.length cap'))
  have HBF := hide ((((((((g3.setCell (p := ⟨w.heap.size, 6, none⟩) (Nat.le_refl _) (.slice a' l.length cap')).setCell (p := ⟨w.heap.size + 1, 0, none⟩) (Nat.le_succ _) (.int .i64 x.seq)).setCell (p := ⟨w.heap.size + 1, 1, none⟩) (Nat.le_succ _) (.int .i64 x.pri)).setCell (p := ⟨w.heap.size + 1, 2, none⟩) (Nat.le_succ _) (.int .i64 x.exp)).setCell (p := ⟨w.heap.size + 1, 3, none⟩) (Nat.le_succ _) (.bool x.dur)).setCell (p := ⟨w.heap.size + 1, 4, none⟩) (Nat.le_succ _) (.int .i64 x.cnt)).setCell (p := ⟨w.heap.size + 1, 5, none⟩) (Nat.le_succ _) (.int .i64 x.hol)).setCell (p := ⟨w.heap.size + 1, 6, none⟩) (Nat.le_succ _) (.slice a' l.length cap'))
  have hb4 := blk_set _ (w.heap.size + 1) 6 (.slice a' l.length cap') (blk_set _ (w.heap.size + 1) 5 (.int .i64 x.hol) (blk_set _ (w.heap.size + 1) 4 (.int .i64 x.cnt) (blk_set _ (w.heap.size + 1) 3 (.bool x.dur) (blk_set _ (w.heap.size + 1) 2 (.int .i64 x.exp) (blk_set _ (w.heap.size + 1) 1 (.int .i64 x.pri) (blk_set _ (w.heap.size + 1) 0 (.int .i64 x.seq) ((blk_set_other w3 ⟨w.heap.size, 6, none⟩ (.slice a' l.length cap') (w.heap.size + 1) (by show w.heap.size + 1 ≠ w.heap.size; omega)).trans g1)))))))
  obtain ⟨W4, hW4⟩ : ∃ W4, ((((((((w3.setCell ⟨w.heap.size, 6, none⟩ (.slice a' l.length cap')).setCell ⟨w.heap.size + 1, 0, none⟩ (.int .i64 x.seq)).setCell ⟨w.heap.size + 1, 1, none⟩ (.int .i64 x.pri)).setCell ⟨w.heap.size + 1, 2, none⟩ (.int .i64 x.exp)).setCell ⟨w.heap.size + 1, 3, none⟩ (.bool x.dur)).setCell ⟨w.heap.size + 1, 4, none⟩ (.int .i64 x.cnt)).setCell ⟨w.heap.size + 1, 5, none⟩ (.int .i64 x.hol)).setCell ⟨w.heap.size + 1, 6, none⟩ (.slice a' l.length cap')) = W4 := ⟨_, rfl⟩
  rw [hW4] at HOB2 HBF hb4 ⊢
  have hb5 : W4.heap[w.heap.size + 1]? = some (.cells #[.int .i64 x.seq, .int .i64 x.pri, .int .i64 x.exp, .bool x.dur, .int .i64 x.cnt, .int .i64 x.hol, .slice a' l.length cap'] 37 (0, 0)) := by
    rw [hb4]
    simp
  obtain ⟨q0, q1, q2, q3, q4, q5, q6⟩ := ent_cells hb5
  clear g0 g1 g2 g3 n0 n1 HG HOB hW4 hb4 hb5 t0 t1 t2 t3 t4 t5 t6 t7 t8 t9 t10 t11 t12 t13 t14 t15 t16 t17 t18 t19 t20 t21
  refine bodyPost_ret (v := .agg #[.int .i64 x.seq, .int .i64 x.pri, .int .i64 x.exp, .bool x.dur, .int .i64 x.cnt, .int .i64 x.hol, .slice a' l.length cap']) (by simp [results, Try.results25, go_sem, q0, q1, q2, q3, q4, q5, q6]) rfl ⟨_, rfl, HOB2, HBF.out⟩
end Go.Proofs.Ytnbhifakfehefaa
