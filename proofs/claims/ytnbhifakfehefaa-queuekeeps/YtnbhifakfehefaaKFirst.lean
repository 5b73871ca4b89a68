
/- Stage 17: first, with no fits. -/
import Derived.Test.YtnbhifakfehefaaKPut
namespace Go.Proofs.Ytnbhifakfehefaa
open Go.RowKit
set_option linter.unusedVariables false
set_option linter.unusedSimpArgs false
set_option maxHeartbeats 1000000 in
theorem join_nil (qb : Nat) (w : World) : Calls Try.prog 43 #[.pointer (some ⟨qb, 7, none⟩), .slice none 0 0] w fun e w' => e = .returned (.tuple #[]) ∧ w' = w := by
  go_enter Try.func43, Try.ntmps43
  go_wp2
  go_rounds 1
  all_goals (go_wp2; go_end0; exact ⟨rfl, rfl⟩)
set_option maxHeartbeats 1000000 in
theorem asks1 (b : Nat) (w : World) : Calls Try.prog 44 #[.pointer (some ⟨b, 0, none⟩)] w fun e w' => e = .returned (.bool true) ∧ w' = w := by
  go_enter Try.func44, Try.ntmps44
  go_wp2
  go_ret
  exact ⟨rfl, rfl⟩
set_option maxRecDepth 100000 in
set_option maxHeartbeats 1000000 in
theorem asking_nil (w : World) : Calls Try.prog 28 #[.nilFunc] w fun e w' => e = .returned (.func (.func 44) #[] #[]) ∧ Below w.heap.size w w' := by
  have hbe : (binOp BinOp.eql 66 .nilFunc .nilFunc).run Try.prog (w.alloc (Obj.cells #[.nilFunc] 66)) = .ok (.bool true) (w.alloc (Obj.cells #[.nilFunc] 66)) := by kernel_rfl
  go_enter Try.func28, Try.ntmps28
  go_wp2
  go_ret
  exact ⟨rfl, bel1 (Below.refl _ _) (Nat.le_refl _) _⟩
set_option maxRecDepth 100000 in
set_option maxHeartbeats 4000000 in
theorem first_nil (B qb : Nat) (c : Cf) (hi : Int) (A F : Value) (H : List Nat) (E : Nat → It) (w : World) (hq : QB w qb c hi A F) (hl : Lx w B F H E) (hh : HeapOk (leE E) H H.length) (h0 : 0 < H.length) :
    Calls Try.prog 27 #[.pointer (some ⟨qb, 7, none⟩), .func (.func 44) #[] #[]] w fun e w' => e = .returned (ptr (hv H 0)) ∧ ∃ F' H', Hid (HPopP B qb c hi A F H E w w' F' H') := by
  have HPOP := hide (heap_pop B qb c hi A F H E w hq hl hh h0)
  have c7 := hq.cell.2.2.2.2.2.2.2
  obtain ⟨a, cap, hF⟩ := row_form hl.row
  rw [hF] at c7
  obtain ⟨n, hn⟩ : ∃ n, H.length = n := ⟨_, rfl⟩
  rw [hn] at c7 h0
  have h4 : n ≤ 4096 := by have := hl.len; omega
  have h0' : (0 : Int) < (n : Int) := by omega
  obtain ⟨b, hb⟩ : ∃ b, hv H 0 = b := ⟨_, rfl⟩
  have hta : ∀ w1, (Instr.typeAssert (.iface 67 (.pointer (some ⟨b, 0, none⟩))) 20 67 false).run Try.prog w1 = .ok (.pointer (some ⟨b, 0, none⟩)) w1 := fun w1 => by kernel_rfl
  rw [hb] at HPOP
  rw [hb]
  unfold ifc ptr at HPOP
  unfold ptr
  have HTA := hide hta
  clear hq hl hh hF hn hb hta
  go_enter Try.func27, Try.ntmps27
  go_wp2
  go_loopw [5, 6] (fun v5 v6 wr => v5 = .slice none 0 0 ∧ wr = w) (fun _ _ _ => 1)
  case atStart => exact ⟨rfl, rfl⟩
  case round =>
    obtain ⟨rfl, rfl⟩ := hrel
    go_wp2_with fail
    refine Calls.mono HPOP.out ?_
    rintro e w1 ⟨rfl, F', H', HP⟩
    have hta := HTA.out w1
    go_wp2_with fail
    refine Calls.mono (asks1 b w1) ?_
    rintro e w2 ⟨rfl, rfl⟩
    go_wp2_with fail
    refine Calls.mono (join_nil qb w2) ?_
    rintro e w3 ⟨rfl, rfl⟩
    go_wp2
    go_ret
    exact ⟨rfl, F', H', HP⟩
end Go.Proofs.Ytnbhifakfehefaa
