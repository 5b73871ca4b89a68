import Derived.Test.YtknkmamjdmadcaaLTagsM9
import Derived.BigQuiet
import Derived.Deep.QuietTactic

/- Stage 14: sameTags. -/
namespace Go.Proofs.Ytknkmamjdmadcaa
open Go.RowKit Go.Maps
set_option linter.unusedVariables false
set_option linter.unusedSimpArgs false

/-- the tags of a list of unsettled deliveries -/
def RdU (w : World) (a : Option Addr) (ts : List ByteArray) : Prop := ∀ j (hj : j < ts.length), ∃ b off, a = some ⟨b, off, none⟩ ∧ b < w.heap.size ∧ w.cell? ⟨b, off + j * 20, none⟩ = some (.string ts[j])
set_option maxRecDepth 100000 in
set_option maxHeartbeats 1000000 in
theorem sameTags_yes (ts : List ByteArray) (a b : Option Addr) (c d : Nat) (w : World) (ha : RdU w a ts) (hb : RdU w b ts) (hl : ts.length ≤ 4294967296) :
    Calls Try.prog 11 #[.slice a ts.length c, .slice b ts.length d] w fun e w' => e = .returned (.bool true) ∧ Kp (fun _ => False) w w' := by
  have HA := hide ha
  have HB := hide hb
  obtain ⟨n, hn⟩ : ∃ n, n = ts.length := ⟨_, rfl⟩
  rw [← hn] at hl ⊢
  have HN := hide hn
  clear ha hb hn
  go_enter Try.func11, Try.ntmps11
  go_wp2
  go_loopw [5] (fun i wr => ∃ j : Nat, i = .int .i64 j ∧ j ≤ n ∧ Hid (Kp (fun _ => False) w wr)) (fun i _ => n - (intOf i).toNat)
  case atStart => exact ⟨0, rfl, Nat.zero_le _, Kp.refl _ _⟩
  case round =>
    obtain ⟨j, rfl, hj, HK⟩ := hrel
    by_cases hjn : j < n
    · have hjh : j < ts.length := by have := HN.out; omega
      obtain ⟨p, po, rfl, hp, hcp⟩ := HA.out j hjh
      obtain ⟨q, qo, rfl, hq, hcq⟩ := HB.out j hjh
      have hpw : p < wr.heap.size := Nat.lt_of_lt_of_le hp HK.out.size
      have hqw : q < wr.heap.size := Nat.lt_of_lt_of_le hq HK.out.size
      have cp := (HK.out.cell (o := po + j * 20) hp (fun h => h)).trans hcp
      have cq := (HK.out.cell (o := qo + j * 20) hq (fun h => h)).trans hcq
      obtain ⟨t, ht⟩ : ∃ t, t = ts[j] := ⟨_, rfl⟩
      rw [← ht] at cp cq
      have hjb : (j : Int) ≤ 4294967296 := by omega
      clear hcp hcq ht
      go_wp2
      go_quiet (fail)
      go_wp2
      go_roundw
      case rel => exact ⟨j + 1, by go_num, by omega, HK.out.drewN _⟩
      case measure => simp [intOf]; omega
    · obtain rfl : j = n := by omega
      go_wp2
      go_ret
      exact ⟨rfl, HK.out⟩
end Go.Proofs.Ytknkmamjdmadcaa
