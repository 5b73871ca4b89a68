
/- Stage 17: present, of a queue with one entry. -/
import Derived.Test.YtnbhifakfehefaaKRef
namespace Go.Proofs.Ytnbhifakfehefaa
open Go.RowKit
set_option linter.unusedVariables false
set_option linter.unusedSimpArgs false
set_option maxRecDepth 100000 in
theorem make_one (w : World) : (Instr.makeSlice 33 (.int .i64 1) (.int .i64 1)).run Try.prog w = .ok (.slice (some ⟨w.heap.size, 0, none⟩) 1 1) (w.alloc (Obj.cells #[.int .i64 0, .int .i64 0, .int .i64 0, .bool false, .int .i64 0, .int .i64 0, .slice none 0 0] 37)) := by kernel_rfl
set_option maxRecDepth 100000 in
set_option maxHeartbeats 4000000 in
theorem present_one (B qb b : Nat) (c : Cf) (hi : Int) (A F : Value) (H : List Nat) (E : Nat → It) (D : Nat → List Nat) (w : World) (hs : Qs w B qb c hi A F [b] H E D) :
    Calls Try.prog 37 #[.pointer (some ⟨qb, 0, none⟩)] w fun e w' => ∃ g, e = .returned (.slice (some ⟨g, 0, none⟩) 1 1) ∧ Hid (w'.heap[g]? = some (.cells #[.int .i64 (E b).seq, .int .i64 (E b).pri, .int .i64 (E b).exp, .bool (E b).dur, .int .i64 (E b).cnt, .int .i64 (E b).hol, (E b).dat] 37 (0, 0))) ∧ Below w.heap.size w w' := by
  have c6 := hs.q.cell.2.2.2.2.2.2.1
  obtain ⟨ga, cap, hA, ca, hcap⟩ := row_cell hs.ra 0 (by simp)
  have hb0 : hv [b] 0 = b := rfl
  rw [hb0] at ca
  simp only [List.length_cons, List.length_nil, Nat.zero_add] at hA hcap
  rw [hA] at c6
  obtain ⟨p, hib⟩ := hs.it b (by simp)
  obtain ⟨y0, y1, y2, y3, y4, y5, y6, _⟩ := hib.cells
  unfold It.at at y0 y1 y2 y3 y4 y5 y6
  simp only at y0 y1 y2 y3 y4 y5 y6
  unfold ptr at ca
  have hql := hs.q.lt
  have hbl := hib.lt
  have hgl : ga < w.heap.size := cell_lt ca
  have hdat : ∃ av cv, (E b).dat = .slice av (D b).length cv := by
    obtain ⟨av, cv, h⟩ := row_form (hs.dat b (by simp)).1
    exact ⟨av, cv, h⟩
  clear hs hib hA hb0
  have hmk := make_one w
  go_enter Try.func37, Try.ntmps37
  go_wp2_with fail
  go_loopw [4, 5, 17] (fun _ _ vk wr => (vk = .int .i64 0 ∧ wr = w.alloc (Obj.cells #[.int .i64 0, .int .i64 0, .int .i64 0, .bool false, .int .i64 0, .int .i64 0, .slice none 0 0] 37)) ∨ (vk = .int .i64 1 ∧ wr = w.alloc (Obj.cells #[.int .i64 (E b).seq, .int .i64 (E b).pri, .int .i64 (E b).exp, .bool (E b).dur, .int .i64 (E b).cnt, .int .i64 (E b).hol, (E b).dat] 37))) (fun _ _ vk _ => 2 - (intOf vk).toNat)
  case atStart => exact .inl ⟨rfl, rfl⟩
  case round =>
    rcases hrel with ⟨rfl, rfl⟩ | ⟨rfl, rfl⟩
    · obtain ⟨av, cv, hdv⟩ := hdat
      rw [hdv] at y6 ⊢
      go_wp2
      go_roundw
      case rel => first | exact .inr ⟨rfl, rfl⟩ | exact .inr ⟨trivial, rfl⟩ | exact .inr ⟨trivial, trivial⟩ | simp
      case measure => simp [intOf]
    · go_wp2_with fail
      refine Calls.mono (sort_one _ 1 1 _ _ (Nat.le_refl _)) ?_
      rintro e w' ⟨rfl, rfl⟩
      go_wp2
      go_ret
      exact ⟨w.heap.size, rfl, heap_new _ _, bel1 (Below.refl _ _) (Nat.le_refl _) _⟩
end Go.Proofs.Ytnbhifakfehefaa
