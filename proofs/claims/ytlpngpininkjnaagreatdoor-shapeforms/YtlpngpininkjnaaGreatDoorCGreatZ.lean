import Derived.Test.YtlpngpininkjnaaGreatDoorVWeighZ

/- longshoreref02.GreatAll of any list. -/
namespace Go.Proofs.YtlpngpininkjnaaGreatDoor
open Go.RowKit
set_option linter.unusedVariables false

set_option maxRecDepth 100000 in
set_option maxHeartbeats 1000000 in
theorem greatallA_any (a : Option Addr) (c n₀ : Nat) (l : List V) (w : World) (hn : n₀ ≤ w.heap.size) (hr : 0 < l.length → ∃ b o, a = some ⟨b, o, none⟩ ∧ b < n₀ ∧ Row w b o l) (hl : ∀ x ∈ l, Lies n₀ w x) (hc : l.length ≤ c) (hcc : l.length ≤ 2199023255552) :
    Calls Tryz.prog 4 #[.slice a l.length c] w fun e w' => (e = .returned (.bool true) ∧ Below w.heap.size w w') ∨ (e = .returned (.bool false) ∧ T.wts (V.ts l) ≤ 100000 ∧ Below w.heap.size w w') := by
  have HR := hide hr
  have HL := hide hl
  clear hr hl
  go_enter Tryz.func4, Tryz.ntmps4
  go_wp2
  go_loopw [3, 4] (fun z i wr => ∃ (j : Nat) (y : Int), i = .int .i64 j ∧ z = .int .i64 y ∧ j ≤ l.length ∧ Below w.heap.size w wr ∧ Hid (0 ≤ y ∧ y ≤ 35184372088832 ∧ (y ≤ 100000 → y = T.wts (V.ts (l.take j))))) (fun _ i _ => l.length - (intOf i).toNat)
  case atStart =>
    refine ⟨0, _, rfl, rfl, Nat.zero_le _, Below.refl _ _, by omega, by omega, fun _ => by simp [V.ts, T.wts]⟩
  case round =>
    obtain ⟨j, y, rfl, rfl, hj, hb, HY⟩ := hrel
    have hsz := hb.size
    by_cases hjl : j < l.length
    · by_cases hy : y ≤ 100000
      · obtain ⟨b, o, rfl, hlt, hrr⟩ := HR.out (by omega)
        obtain ⟨x0, x1, x2, x3, x4⟩ := (hrr.below hb (by omega)) j hjl
        clear hrr
        have hx := weigh_any l[j] y
        rw [V.val_eq] at hx
        have HH := hide hx
        clear hx
        obtain ⟨y1, y2, y3⟩ := HY.out
        go_wp2_with fail
        refine Calls.mono (HH.out n₀ wr (by omega) ((HL.out _ (List.getElem_mem hjl)).keep hb hn) y1 hy) ?_
        rintro e w1 ⟨z, rfl, HZ, hb1⟩
        have hbw := belOn hb (by omega) hb1
        go_wp2
        go_roundw
        case rel =>
          refine ⟨j + 1, z, by go_num, rfl, hjl, hbw, HZ.out.1, HZ.out.2.1, fun hz => ?_⟩
          have e1 := HZ.out.2.2 hz
          have e2 := y3 hy
          rw [wts_snoc l j hjl]
          omega
        case measure => simp [intOf]; omega
      · have hy' : ¬ y ≤ 100000 := hy
        go_wp2
        go_ret
        exact .inl ⟨rfl, hb⟩
    · obtain rfl : j = l.length := by omega
      have hyb := HY.out
      rw [List.take_length] at hyb
      by_cases hy : y ≤ 100000
      · go_wp2
        go_ret
        exact .inr ⟨by simp; omega, by have := hyb.2.2 hy; omega, hb⟩
      · go_wp2
        go_ret
        exact .inl ⟨rfl, hb⟩
end Go.Proofs.YtlpngpininkjnaaGreatDoor


/- longshoreref02's Great. -/
namespace Go.Proofs.YtlpngpininkjnaaGreatDoor
open Go.RowKit
set_option linter.unusedVariables false
set_option linter.unusedSimpArgs false

end Go.Proofs.YtlpngpininkjnaaGreatDoor
