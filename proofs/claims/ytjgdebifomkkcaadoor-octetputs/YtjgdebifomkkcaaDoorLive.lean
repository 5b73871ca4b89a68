/- live: what a few calls answer. -/
import Derived.Test.YtjgdebifomkkcaaDoorUtf
import Derived.Test.YtjgdebifomkkcaaDoorGet
import Derived.Test.YtjgdebifomkkcaaDoorSum
namespace Go.Proofs.YtjgdebifomkkcaaDoor
open Go.RowKit
set_option linter.unusedVariables false

theorem Rd.of_row {w : World} {b n : Nat} {t : TypeId} {f : Nat → Nat} (h : w.rowIs b t n (fun i => .int .u8 ((f i : Nat) : Int))) (hf : ∀ i, i < n → f i < 256) : Rd w (some ⟨b, 0, none⟩) n ((List.range n).map f) := by
  refine ⟨by simp, ?_, fun _ => ⟨b, 0, rfl, h.lt, fun j hj => ?_⟩⟩
  · intro c hc
    obtain ⟨i, hi, rfl⟩ := List.mem_map.1 hc
    exact hf i (List.mem_range.1 hi)
  · have := h.cell hj
    simp only [Nat.zero_add]
    rw [this]
    simp [List.getD_eq_getElem?_getD, hj]
theorem dig_lt (N k : Nat) : dig N k < 256 := Nat.mod_lt _ (by omega)

theorem live_utf : utfZ ⟨#[97, 128]⟩ 0 = 1 := by
  have h0 : dec ⟨#[97, 128]⟩ 0 = (97, 1) := by decide
  have h1 : dec ⟨#[97, 128]⟩ 1 = (65533, 1) := by decide
  rw [utfZ_good _ 0 (by decide) (by rw [h0]; decide), h0]
  exact utfZ_bad _ 1 (by decide) (by rw [h1]; decide)
theorem live_asc : Asc ⟨#[97, 98, 255]⟩ 2 := by
  have h : ∀ j, j < 2 → ∀ _ : j < (⟨#[97, 98, 255]⟩ : ByteArray).size, (⟨#[97, 98, 255]⟩ : ByteArray)[j].toNat < 128 := by decide
  exact .inr ⟨2, by decide, rfl, by decide, fun j hj => h j hj (Nat.lt_trans hj (by decide))⟩
theorem live_crc : 4294967295 ^^^ Oc.crc 4294967295 [97] = 3904355907 := by decide

theorem live_sum (w : World) (t : TypeId) :
    Calls Tryd.prog 26 #[.slice (some ⟨w.heap.size + 1, 0, none⟩) 1 1] ((w.alloc (Obj.cells #[.int .u8 97] t)).alloc (Obj.cells #[.slice (some ⟨w.heap.size, 0, none⟩) 1 1] 24)) fun e w' =>
      e = .returned (.int .u32 3904355907) ∧ Below w.heap.size w w' := by
  have h := sum_any (w.heap.size + 1) 0 1 1 [[97]] ((w.alloc (Obj.cells #[.int .u8 97] t)).alloc (Obj.cells #[.slice (some ⟨w.heap.size, 0, none⟩) 1 1] 24)) (by omega) rfl (fun _ => by simp) (fun k hk => by
    obtain rfl : k = 0 := by omega
    refine ⟨some ⟨w.heap.size, 0, none⟩, 1, 1, ?_, by omega, rfl, by simp, fun _ => ⟨w.heap.size, 0, rfl, by simp; omega, fun j hj => ?_⟩⟩
    · rw [World.cell?_alloc_at _ _ _ _ (by simp)]; rfl
    · obtain rfl : j = 0 := by omega
      rw [World.cell?_alloc_past _ _ _ (by simp), World.cell?_alloc_at _ _ _ _ rfl]; rfl)
  refine h.mono fun e w' ⟨he, hb⟩ => ?_
  have hc : ([[97]] : List (List Nat)).flatten = [97] := rfl
  rw [hc, live_crc] at he
  exact ⟨he, (((Below.refl _ _).alloc (Nat.le_refl _) _).alloc (by simp) _).trans (hb.mono (by simp; omega))⟩

set_option maxRecDepth 100000 in
set_option maxHeartbeats 1000000 in
theorem live_any (w : World) (hT : Lib.Utf8Tabs 0 1 w) :
    Calls Tryd.prog 8 #[] w fun e w' => e = .returned (.bool true) ∧ Below w.heap.size w w' := by
  have HT : Hid (Lib.Utf8Tabs 0 1 w) := hT
  clear hT
  go_enter Tryd.func8, Tryd.ntmps8
  go_wp2_with fail
  refine (put_yes 258 2 w (by omega) (by omega) (by omega)).mono ?_
  rintro e w1 ⟨rfl, hrow, hsz, hb1⟩
  have HR : Hid (Rd w1 (some ⟨w.heap.size, 0, none⟩) 2 [1, 2]) := by
    have := Rd.of_row hrow (fun i hi => dig_lt _ _)
    exact this
  clear hrow
  go_wp2_with fail
  refine (get_yes _ 2 2 0 2 [1, 2] w1 (by omega) (by omega) (by omega) (by omega) (by omega) HR.out).mono ?_
  rintro e w2 ⟨rfl, rfl⟩
  have hg : getN (([1, 2].drop 0).take 2) = 258 := by decide
  rw [hg]
  clear hg
  go_wp2_with fail
  refine (utf8_any _ w1 (by decide) (tabs_below HT.out hb1)).mono ?_
  rintro e w2 ⟨rfl, hb2⟩
  rw [live_utf]
  go_wp2_with fail
  refine (ascii_any _ w2 (by decide)).mono ?_
  rintro e w3 ⟨z, rfl, hz, rfl⟩
  rw [hz.unique live_asc]
  clear hz
  go_wp2_with fail
  refine (add_any _ _ w2).mono ?_
  rintro e w3 ⟨rfl, rfl⟩
  go_wp2_with fail
  refine (gap_any _ _ w2).mono ?_
  rintro e w3 ⟨rfl, rfl⟩
  rw [show gapZ 4294967295 3 = 4 by decide]
  go_wp2_with fail
  refine (live_sum w2 _).mono ?_
  rintro e w3 ⟨rfl, hb3⟩
  go_wp2
  go_ret
  exact ⟨rfl, (hb1.trans (hb2.mono hb1.size)).trans (hb3.mono (Nat.le_trans hb1.size hb2.size))⟩
end Go.Proofs.YtjgdebifomkkcaaDoor
