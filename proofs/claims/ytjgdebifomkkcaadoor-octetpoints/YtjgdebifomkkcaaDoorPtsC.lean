/- longshorelaw01's point and written: their contracts. -/
import Derived.Test.YtjgdebifomkkcaaDoorPtsM
import Derived.Test.YtjgdebifomkkcaaDoorRd
namespace Go.Proofs.YtjgdebifomkkcaaDoor
open Go.RowKit
set_option linter.unusedVariables false

theorem tmod_bd (a : Int) : -1114111 ≤ a.tmod 1114112 ∧ a.tmod 1114112 ≤ 1114111 := by
  by_cases h : 0 ≤ a
  · rw [Int.tmod_eq_emod_of_nonneg h]; omega
  · have := Int.neg_tmod (-a) 1114112
    rw [Int.neg_neg] at this
    rw [this, Int.tmod_eq_emod_of_nonneg (show 0 ≤ -a by omega)]
    omega
set_option maxRecDepth 100000 in
theorem point_any (a : Int) (w : World) :
    Calls Tryd.prog 22 #[.int .i64 a] w fun e w' => ∃ c : Nat, e = .returned (.int .i64 (c : Int)) ∧ Pt c ∧ w = w' := by
  obtain ⟨hb1, hb2⟩ := tmod_bd a
  go_enter Tryd.func22, Tryd.ntmps22
  generalize ht : a.tmod 1114112 = t at *
  have HC : (t < 0 ∧ 55296 ≤ -t ∧ -t ≤ 57343) ∨ (t < 0 ∧ -t < 55296) ∨ (t < 0 ∧ 57343 < -t) ∨ (0 ≤ t ∧ 55296 ≤ t ∧ t ≤ 57343) ∨ (0 ≤ t ∧ t < 55296) ∨ (0 ≤ t ∧ 57343 < t) := by omega
  rcases HC with ⟨h1, h2, h3⟩ | ⟨h1, h2⟩ | ⟨h1, h2⟩ | ⟨h1, h2, h3⟩ | ⟨h1, h2⟩ | ⟨h1, h2⟩
  · go_wp2
    go_ret
    exact ⟨65, rfl, ⟨by omega, by omega⟩, rfl⟩
  · go_wp2
    go_ret
    exact ⟨(-t).toNat, ret_int (by omega), ⟨by omega, by omega⟩, rfl⟩
  · go_wp2
    go_ret
    exact ⟨(-t).toNat, ret_int (by omega), ⟨by omega, by omega⟩, rfl⟩
  · go_wp2
    go_ret
    exact ⟨65, rfl, ⟨by omega, by omega⟩, rfl⟩
  · go_wp2
    go_ret
    exact ⟨t.toNat, ret_int (by omega), ⟨by omega, by omega⟩, rfl⟩
  · go_wp2
    go_ret
    exact ⟨t.toNat, ret_int (by omega), ⟨by omega, by omega⟩, rfl⟩

theorem rd_new (w : World) (t : TypeId) (l : List Nat) (C : Array Value) (hC : C = (l.map (fun c : Nat => Value.int .u8 (c : Int))).toArray) (hb : ∀ c ∈ l, c < 256) : Rd (w.alloc (.cells C t)) (some ⟨w.heap.size, 0, none⟩) l.length l := by
  subst hC
  refine ⟨rfl, hb, fun _ => ⟨w.heap.size, 0, rfl, by simp, fun j hj => ?_⟩⟩
  rw [Nat.zero_add, World.cell?_alloc_at _ _ _ _ rfl]
  simp [List.getD_eq_getElem?_getD, List.getElem?_eq_getElem hj]
theorem wr_end {w : World} {t : TypeId} {L l : List Nat} {n : Nat} {C : Array Value} (hW : L = l) (hB : Byt L) (hn : n = l.length) (hC : C = (l.map (fun c : Nat => Value.int .u8 (c : Int))).toArray) (e : Ending) (he : e = .returned (.slice (some ⟨w.heap.size, 0, none⟩) n n) := by rfl) :
    e = .returned (.slice (some ⟨w.heap.size, 0, none⟩) L.length L.length) ∧ Rd (w.alloc (.cells C t)) (some ⟨w.heap.size, 0, none⟩) L.length L ∧ Below w.heap.size w (w.alloc (.cells C t)) := by
  subst hW
  subst hn
  exact ⟨he, rd_new w t L C hC hB, (Below.refl _ _).alloc (Nat.le_refl _) _⟩
set_option maxRecDepth 100000 in
set_option maxHeartbeats 1000000 in
theorem written_any (c : Nat) (w : World) (hc : Pt c) :
    Calls Tryd.prog 23 #[.int .i64 (c : Int)] w fun e w' => e = .returned (.slice (some ⟨w.heap.size, 0, none⟩) (wrL c).length (wrL c).length) ∧ Rd w' (some ⟨w.heap.size, 0, none⟩) (wrL c).length (wrL c) ∧ Below w.heap.size w w' := by
  have hl : c < 1114112 := hc.1
  have HB := hide (wrL_byt c hc)
  clear hc
  obtain ⟨z, hz⟩ : ∃ z : Int, z = (c : Int) := ⟨_, rfl⟩
  rw [← hz]
  have hz0 : 0 ≤ z := by omega
  by_cases e0 : c < 128
  · have HW : Hid (wrL c = [c]) := by show _ = _; unfold wrL; rw [if_pos e0]
    have f1 : z < 128 := by omega
    have HZ := hide hz
    clear hz hl e0
    go_enter Tryd.func23, Tryd.ntmps23
    go_wp2
    go_ret
    exact wr_end HW.out HB.out rfl (by rw [HZ.out]; simp) _
  · by_cases e1 : c < 2048
    · have HW : Hid (wrL c = [192 + c / 64, 128 + c % 64]) := by show _ = _; unfold wrL; rw [if_neg e0, if_pos e1]
      have f0 : 128 ≤ z := by omega
      have f1 : z < 2048 := by omega
      have HZ := hide hz
      clear hz hl e0 e1
      go_enter Tryd.func23, Tryd.ntmps23
      go_wp2
      go_ret
      exact wr_end HW.out HB.out rfl (by rw [HZ.out]; simp) _
    · by_cases e2 : c < 65536
      · have HW : Hid (wrL c = [224 + c / 4096, 128 + c / 64 % 64, 128 + c % 64]) := by show _ = _; unfold wrL; rw [if_neg e0, if_neg e1, if_pos e2]
        have f0 : 2048 ≤ z := by omega
        have f1 : z < 65536 := by omega
        have HZ := hide hz
        clear hz hl e0 e1 e2
        go_enter Tryd.func23, Tryd.ntmps23
        go_wp2
        go_ret
        exact wr_end HW.out HB.out rfl (by rw [HZ.out]; simp) _
      · have HW : Hid (wrL c = [240 + c / 262144, 128 + c / 4096 % 64, 128 + c / 64 % 64, 128 + c % 64]) := by show _ = _; unfold wrL; rw [if_neg e0, if_neg e1, if_neg e2]
        have f0 : 65536 ≤ z := by omega
        have f1 : z < 1114112 := by omega
        have HZ := hide hz
        clear hz hl e0 e1 e2
        go_enter Tryd.func23, Tryd.ntmps23
        go_wp2
        go_ret
        exact wr_end HW.out HB.out rfl (by rw [HZ.out]; simp) _
end Go.Proofs.YtjgdebifomkkcaaDoor
