
/- Stage 20: AsLentBytes: it turns what was lent alone. -/
import Derived.Test.YtgkdecjlanbmhaaJQl
namespace Go.Proofs.Ytgkdecjlanbmhaa
open Go.RowKit
set_option linter.unusedVariables false
set_option linter.unusedSimpArgs false
set_option maxHeartbeats 2000000 in
/-- what was lent is as it was -/
theorem asLent_kp (g n cap : Nat) (a : Option Addr) (l : List Nat) (w : World) (hrow : w.rowIs g 5 (n + 9) (fun i => bW ((l ++ lnM).getD i 0))) (hr : Rd w a n l) (hn : n ≤ 140737488355328) (hB : ∀ c ∈ l, c < 256) :
    Calls Try.prog 17 #[.slice (some ⟨g, 0, none⟩) n (n + 9), .slice a n cap] w fun e w' => e = .returned (.bool true) ∧ Kp (fun q => q = g) w w' := by
  have hl := hr.1
  have h1 : Rd w (some ⟨g, 0, none⟩) n l := by
    refine ⟨hl, hB, fun h0 => ⟨g, 0, rfl, hrow.lt, fun j hj => ?_⟩⟩
    have := hrow.cell (show j < n + 9 by omega)
    rw [Nat.zero_add, this]
    simp only [bW, List.getD_eq_getElem?_getD]
    rw [List.getElem?_append_left (by omega)]
  have hc1 := conv_any h1 (n + 9)
  have hc2 := conv_any hr cap
  have HR := hide hrow
  have HB0 : Hid (Kp (fun q => q = g) w w) := Kp.refl _ _
  clear hr h1 hrow
  go_enter Try.func17, Try.ntmps17
  go_wp2
  go_loopw [6, 7] (fun gv i wr => ∃ k : Nat, k ≤ n + 9 ∧ gv = .bool true ∧ i = .int .i64 (k : Int) ∧ Hid (wr.rowIs g 5 (n + 9) (fun i => if i < k then bW 77 else bW ((l ++ lnM).getD i 0))) ∧ Hid (Kp (fun q => q = g) w wr)) (fun _ i _ => n + 9 - (intOf i).toNat)
  case atStart => exact ⟨0, by omega, rfl, rfl, hide (by simpa using HR.out), HB0.out⟩
  case round =>
    obtain ⟨k, hk, rfl, rfl, HRW, HBW⟩ := hrel
    by_cases hk9 : k < n + 9
    · have hc := HRW.out.cell hk9
      rw [if_neg (Nat.lt_irrefl k)] at hc
      have hf := HRW.out.frozen k
      have HN : Hid ((wr.setCell ⟨g, k, none⟩ (.int .u8 77)).rowIs g 5 (n + 9) (fun i => if i < k + 1 then bW 77 else bW ((l ++ lnM).getD i 0))) := (HRW.out.set k _).congr fun i hi => by
        by_cases h1 : i = k
        · subst h1
          rw [if_pos rfl, if_pos (by omega)]
          rfl
        · rw [if_neg h1]
          by_cases h2 : i < k
          · rw [if_pos h2, if_pos (by omega)]
          · rw [if_neg h2, if_neg (by omega)]
      have HB2 := hide (HBW.out.setCell (b := g) (o := k) rfl (.int .u8 77))
      have hklt : (k : Int) < (n : Int) + 9 := by omega
      by_cases hkn : k < n
      · clear hc1 hc2
        generalize bW ((l ++ lnM).getD k 0) = y0 at *
        go_wp2
        exact ⟨⟨k + 1, by omega, rfl, by go_num, HN.out, HB2.out⟩, by simp [intOf]; omega⟩
      · obtain ⟨j, rfl⟩ : ∃ j, k = n + j := ⟨k - n, by omega⟩
        have hy : bW ((l ++ lnM).getD (n + j) 0) = .int .u8 (200 + (j : Int)) := by
          have : j = 0 ∨ j = 1 ∨ j = 2 ∨ j = 3 ∨ j = 4 ∨ j = 5 ∨ j = 6 ∨ j = 7 ∨ j = 8 := by omega
          simp only [bW, List.getD_eq_getElem?_getD]
          rw [List.getElem?_append_right (by omega), hl, Nat.add_sub_cancel_left]
          rcases this with rfl | rfl | rfl | rfl | rfl | rfl | rfl | rfl | rfl <;> rfl
        rw [hy] at hc
        clear hc1 hc2 hy
        have hv : (200 + ((n + j : Nat) : Int) - (n : Int)) = 200 + (j : Int) := by omega
        have hv2 : (200 + ((n : Int) + (j : Int)) - (n : Int)) = 200 + (j : Int) := by omega
        have hge : (n : Int) ≤ (n : Int) + (j : Int) := by omega
        go_wp2
        exact ⟨⟨n + j + 1, by omega, rfl, by congr 1, HN.out, HB2.out⟩, by simp [intOf]; omega⟩
    · have hk' : k = n + 9 := by omega
      subst hk'
      clear hc1 hc2
      go_wp2
      go_ret
      exact ⟨rfl, HBW.out⟩
end Go.Proofs.Ytgkdecjlanbmhaa
