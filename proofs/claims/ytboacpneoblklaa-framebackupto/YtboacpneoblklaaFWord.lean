/- The document's word, number. -/
import Derived.Test.YtboacpneoblklaaFSeal
import Derived.Test.YtboacpneoblklaaFLent
namespace Go.Proofs.Ytboacpneoblklaa
open Go.RowKit Go.Deep
set_option linter.unusedVariables false
set_option linter.unusedSimpArgs false

set_option maxRecDepth 100000 in
set_option maxHeartbeats 2000000 in
theorem word_any (N k : Nat) (w : World) (hN : N < 4294967296) (h1 : 1 ≤ k) (h8 : k ≤ 4) :
    Calls Try.prog 23 #[.int .i64 (N : Int), .int .i64 (k : Int)] w fun e w' => ∃ v, e = .returned v ∧ w'.ownsRow w.heap.size 5 1 v k ((digs N k).map byteV) ∧ Below w.heap.size w w' := by
  obtain ⟨i0, hi, hz0, hz1, hz2⟩ := info_parts Try.info5
  have HI := hide hi
  have HZ0 := hide hz0
  have HZ1 := hide hz1
  have HZ2 := hide hz2
  clear hi hz0 hz1 hz2
  go_enter Try.func23, Try.ntmps23
  go_wp2
  go_loopw [5, 6] (fun vl i wr => ∃ z : Int, ∃ j : Nat, i = .int .i64 z ∧ z + j + 1 = k ∧ -1 ≤ z ∧ wr.ownsRow w.heap.size 5 1 vl j (((digs N k).take j).map byteV) ∧ Below w.heap.size w wr) (fun _ i _ => (intOf i + 1).toNat)
  case atStart => exact ⟨_, 0, rfl, by omega, by omega, World.ownsRow_nil _ _ _ _, Below.refl _ _⟩
  case round =>
    obtain ⟨z, j, rfl, hz, hzm, hown, hbw⟩ := hrel
    have HO := hide hown
    clear hown
    by_cases hz0 : 0 ≤ z
    · obtain ⟨q, rfl⟩ := Int.eq_ofNat_of_zero_le hz0
      have HTK := hide (map_takeB (digs N k) j (by rw [digs_length]; omega))
      have HDG : Hid ((digs N k).getD j 0 = dig N q) := by show _ = _; rw [digs_getD N k j (by omega)]; congr 1; omega
      have hX : (N : Int) / 2 ^ (8 * q) % 256 = ((dig N q : Nat) : Int) := by
        unfold dig
        rw [show (256 : Nat) ^ q = 2 ^ (8 * q) by rw [Nat.pow_mul]]
        simp
      have hx2 : dig N q < 256 := Nat.mod_lt _ (by omega)
      generalize dig N q = X at *
      go_wp2_with (at_builtin; refine wpList_append_new _ rfl (.tmp 13) (.tmp 19) 22 rfl w.heap.size 5 i0 (.int .u8 0) 1 Try.underlying22 HI.out HZ0.out HZ1.out HZ2.out rfl _ j _ rfl (HO.out.alloc _) ⟨wr.heap.size, 0, none⟩ 1 (byteV X) rfl (cell_new1 _ _ _) rfl (by unfold maxLen; omega) (by omega) (by have := hbw.size; simp; omega) ?_; intro vl' w3 r1 r2 r3; have HR1 := hide r1; have HB3 := hide ((hbw.alloc hbw.size _).grown r2 (by have := hbw.size; simp; omega) (fun g hg => (HO.out.lt g hg).1)); clear r1 r2 r3)
      go_roundw
      case rel => exact ⟨_, j + 1, rfl, by omega, by omega, by rw [HTK.out, HDG.out]; exact HR1.out, HB3.out⟩
      case measure => simp [intOf]
    · have hjn : j = k := by omega
      subst hjn
      have HO2 : Hid (wr.ownsRow w.heap.size 5 1 u5 j ((digs N j).map byteV)) := by
        have := HO.out
        rw [List.take_of_length_le (by rw [digs_length]; omega)] at this
        exact this
      go_wp2
      go_ret
      exact ⟨_, rfl, HO2.out, hbw⟩
end Go.Proofs.Ytboacpneoblklaa
