/- HFields -/
import Derived.Test.YtgldcchleoklcaaGreatDoorF02
import Derived.Test.YtgldcchleoklcaaGreatDoorF11
import Derived.Laws.EntriesVeiled
namespace Go.Proofs.YtgldcchleoklcaaGreatDoor
open Go.RowKit
set_option linter.unusedVariables false
set_option linter.unusedSimpArgs false
def KT (w : World) (b : Nat) : Prop := w.heap[b]? = some (.cells kcells 61 (0, 0))
theorem KT.below {B : Nat} {W w : World} {b : Nat} (h : KT W b) (hb : Below B W w) (hlt : b < B) : KT w b := (hb.block b hlt).trans h
theorem KT.cells {w : World} {b : Nat} (h : KT w b) (i : Nat) (hi : i < krows.length) : w.cell? ⟨b, i * 3, none⟩ = some (.int .i64 krows[i].1) ∧ w.cell? ⟨b, i * 3 + 1, none⟩ = some (.string krows[i].2.1) ∧ w.cell? ⟨b, i * 3 + 2, none⟩ = some krows[i].2.2 := by
  have hk := kcells_at i (by rw [← krows_len]; exact hi)
  unfold KT at h
  unfold World.cell?
  simp only [h]
  exact hk
set_option maxRecDepth 100000 in
theorem run_neq_nil (f : FuncId) (w : World) : (binOp BinOp.neq 59 (.func (.func f) #[] #[]) .nilFunc).run Tryz.prog w = .ok (.bool true) w := by
  first
  | rfl
  | kernel_rfl
  | simp [binOp, run_underlying Tryz.underlying59, go_sem]
set_option maxRecDepth 100000 in
set_option maxHeartbeats 2000000 in
theorem name16_any (w : World) : Calls Tryz.prog 10 #[.int .i64 16] w fun e w' => e = .returned (.string ⟨#[108, 111, 110, 103, 115, 104, 111, 114, 101, 58, 111, 112, 101, 110, 58, 108, 105, 115, 116]⟩) ∧ Below w.heap.size w w' := by
  have HK := hide (kinds_any w)
  go_enter Tryz.func10, Tryz.ntmps10
  go_wp2_with fail
  refine HK.out.mono ?_
  rintro e w1 ⟨rfl, rfl⟩
  obtain ⟨W1, hW1⟩ : ∃ W1, w.alloc (.cells kcells 61) = W1 := ⟨_, rfl⟩
  have hs1 : W1.heap.size = w.heap.size + 1 := by rw [← hW1]; simp
  have hb1 : Below w.heap.size w W1 := by rw [← hW1]; exact bel1 (Below.refl _ _) (Nat.le_refl _) _
  have hk1 : KT W1 w.heap.size := by rw [← hW1]; exact World.alloc_heap_new _ _
  rw [hW1]
  clear hW1
  go_wp2
  go_loopw [7] (fun u wr => u = .int .i64 0 ∧ Below W1.heap.size W1 wr) (fun u _ => 1 - (intOf u).toNat)
  case atStart => exact ⟨rfl, Below.refl _ _⟩
  case round =>
    obtain ⟨rfl, hb⟩ := hrel
    have hsz := hb.size
    have hc := (hk1.below hb (by omega)).cells 0 (by decide)
    have k0 : wr.cell? ⟨w.heap.size, 0, none⟩ = some (.int .i64 16) := hc.1
    have k1 : wr.cell? ⟨w.heap.size, 1, none⟩ = some (.string ⟨#[108, 111, 110, 103, 115, 104, 111, 114, 101, 58, 111, 112, 101, 110, 58, 108, 105, 115, 116]⟩) := hc.2.1
    have k2 : wr.cell? ⟨w.heap.size, 2, none⟩ = some (.func (.func 48) #[] #[]) := hc.2.2
    have hlt : w.heap.size < wr.heap.size := by omega
    clear hc
    go_wp2
    exact bodyPost_ret (v := .string ⟨#[108, 111, 110, 103, 115, 104, 111, 114, 101, 58, 111, 112, 101, 110, 58, 108, 105, 115, 116]⟩) (by simp [results, Tryz.results10, go_sem]) rfl ⟨rfl, bel1 (belOn hb1 (by omega) hb) (by omega) _⟩
set_option maxRecDepth 100000 in
set_option maxHeartbeats 2000000 in
theorem fields22_any (w : World) : Calls Tryz.prog 8 #[.int .i64 22] w fun e w' => ∃ (ko b : Nat), e = .returned (.tuple #[.slice (some ⟨b, 0, none⟩) 3 3, .bool true]) ∧ Below w.heap.size w w' ∧ w.heap.size ≤ b ∧ b < w'.heap.size ∧
    FRow w' b [⟨⟨#[104, 97, 110, 100, 108, 101]⟩, 4, none, 0, 0, true, leaf 0 0 ⟨#[]⟩⟩, ⟨⟨#[99, 108, 111, 115, 101, 100]⟩, 1, none, 0, 0, false, leaf 1 0 ⟨#[]⟩⟩, ⟨⟨#[102, 97, 117, 108, 116]⟩, 102, some ⟨ko, 0, none⟩, 1, 1, false, leaf 0 0 ⟨#[]⟩⟩] := by
  have HK := hide (kinds_any w)
  go_enter Tryz.func8, Tryz.ntmps8
  go_wp2_with fail
  refine HK.out.mono ?_
  rintro e w1 ⟨rfl, rfl⟩
  obtain ⟨W1, hW1⟩ : ∃ W1, w.alloc (.cells kcells 61) = W1 := ⟨_, rfl⟩
  have hs1 : W1.heap.size = w.heap.size + 1 := by rw [← hW1]; simp
  have hb1 : Below w.heap.size w W1 := by rw [← hW1]; exact bel1 (Below.refl _ _) (Nat.le_refl _) _
  have hk1 : KT W1 w.heap.size := by rw [← hW1]; exact World.alloc_heap_new _ _
  rw [hW1]
  clear hW1
  go_wp2
  go_loopw [8] (fun u wr => ∃ i : Nat, u = .int .i64 i ∧ i ≤ 6 ∧ Below W1.heap.size W1 wr) (fun u _ => 7 - (intOf u).toNat)
  case atStart => exact ⟨0, rfl, by omega, Below.refl _ _⟩
  case round =>
    obtain ⟨i, rfl, hi, hb⟩ := hrel
    have hsz := hb.size
    have hlt : w.heap.size < wr.heap.size := by omega
    have hbw : Below w.heap.size w wr := belOn hb1 (by omega) hb
    by_cases h6 : i = 6
    · subst h6
      have hc := (hk1.below hb (by omega)).cells 6 (by decide)
      have k0 : wr.cell? ⟨w.heap.size, 18, none⟩ = some (.int .i64 22) := hc.1
      have k1 : wr.cell? ⟨w.heap.size, 19, none⟩ = some (.string ⟨#[108, 111, 110, 103, 115, 104, 111, 114, 101, 58, 100, 101, 116, 97, 99, 104, 58, 108, 105, 115, 116]⟩) := hc.2.1
      have k2 : wr.cell? ⟨w.heap.size, 20, none⟩ = some (.func (.func 54) #[] #[]) := hc.2.2
      clear hc
      have HD := hide (fun W => detachFields_any W)
      go_wp2_with fail
      rw [run_neq_nil]
      go_wp2_with fail
      refine (HD.out _).mono ?_
      rintro e2 w2 ⟨rfl, hb2, hlt2, hfr⟩
      have hbx : Below w.heap.size w w2 := belOn (bel1 hbw (by omega) _) (by simp; omega) hb2
      have HF := hide hfr
      have HL := hide hlt2
      clear hfr hlt2 hb2
      go_wp2
      exact bodyPost_ret (v := .tuple #[.slice (some ⟨wr.heap.size + 1 + 1, 0, none⟩) 3 3, .bool true]) (by simp [results, Tryz.results8, go_sem]) rfl ⟨_, _, rfl, hbx, by omega, by simpa using HL.out, by simpa using HF.out⟩
    · have hc := (hk1.below hb (by omega)).cells i (by rw [krows_len]; omega)
      obtain ⟨k0, k1, k2⟩ := hc
      have hne : (krows[i]'(by rw [krows_len]; omega)).1 ≠ 22 := by
        obtain rfl | rfl | rfl | rfl | rfl | rfl : i = 0 ∨ i = 1 ∨ i = 2 ∨ i = 3 ∨ i = 4 ∨ i = 5 := by omega
        all_goals exact of_decide_eq_true rfl
      obtain ⟨g, hg⟩ : ∃ g, (krows[i]'(by rw [krows_len]; omega)).2.2 = .func (.func g) #[] #[] := by
        obtain rfl | rfl | rfl | rfl | rfl | rfl : i = 0 ∨ i = 1 ∨ i = 2 ∨ i = 3 ∨ i = 4 ∨ i = 5 := by omega
        all_goals exact ⟨_, rfl⟩
      rw [hg] at k2
      generalize (krows[i]'(by rw [krows_len]; omega)).1 = n0 at k0 hne
      generalize (krows[i]'(by rw [krows_len]; omega)).2.1 = n1 at k1
      go_wp2
      go_roundw
      case rel => exact ⟨i + 1, by go_num, by omega, bel1 hb (by omega) _⟩
      case measure => simp [intOf]; omega
end Go.Proofs.YtgldcchleoklcaaGreatDoor
