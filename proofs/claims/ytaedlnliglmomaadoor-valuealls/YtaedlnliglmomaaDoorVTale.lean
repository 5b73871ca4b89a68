/- longshoreref02's Great, Long. -/
import Derived.Test.YtaedlnliglmomaaDoorVWeigh
namespace Go.Proofs.YtaedlnliglmomaaDoor
open Go.RowKit
set_option linter.unusedVariables false
set_option linter.unusedSimpArgs false

/-- Great -/
theorem great_any (x : V) (n₀ : Nat) (w : World) (hn : n₀ ≤ w.heap.size) (hx : Lies n₀ w x) :
    Calls Tryd.prog 9 #[x.val] w fun e w' => (e = .returned (.bool true) ∧ Below w.heap.size w w') ∨ (e = .returned (.bool false) ∧ T.wt x.t ≤ 100000 ∧ Below w.heap.size w w') := by
  rw [V.val_eq]
  have HW : Hid (∀ w1, Below w.heap.size w w1 → Calls Tryd.prog 33 #[.agg #[.int .i64 x.k, .int .u64 x.n, .string x.s, .slice x.a x.l.length x.c, .int .i64 x.e], .int .i64 0] w1 fun e w' => ∃ z, e = .returned (.int .i64 z) ∧ Hid (0 ≤ z ∧ z ≤ 35184372088832 ∧ (z ≤ 100000 → z = 0 + T.wt x.t)) ∧ Below w1.heap.size w1 w') := by
    intro w1 hb
    have := weigh_any x 0 n₀ w1 (by have := hb.size; omega) (hx.keep hb hn) (by omega) (by omega)
    rwa [V.val_eq] at this
  clear hx
  go_enter Tryd.func9, Tryd.ntmps9
  go_wp2_with fail
  refine Calls.mono (HW.out _ (bel1 (Below.refl _ _) (Nat.le_refl _) _)) ?_
  rintro e w1 ⟨z, rfl, HZ, hb1⟩
  have hbw := belOn (bel1 (Below.refl w.heap.size w) (Nat.le_refl _) _) (by simp) hb1
  by_cases hz : z ≤ 100000
  · go_wp2
    go_ret
    exact .inr ⟨by first | rfl | (simp; omega), by have := HZ.out.2.2 hz; omega, hbw⟩
  · go_wp2
    go_ret
    exact .inl ⟨by first | rfl | (simp; omega), hbw⟩

/-- tale answers a number -/
def TaleOk (x : V) : Prop := ∀ (d m : Int) (n₀ : Nat) (w : World), n₀ ≤ w.heap.size → Lies n₀ w x →
  Calls Tryd.prog 42 #[x.val, .int .i64 d, .int .i64 m] w fun e w' => ∃ z, e = .returned (.int .i64 z) ∧ Below w.heap.size w w'
set_option maxRecDepth 100000 in
set_option maxHeartbeats 1000000 in
theorem tale_any : ∀ x, TaleOk x := by
  refine V.ind ?_
  intro k n s a c e l ih d m n₀ w hn hx
  have HX := hide hx
  have IH := hide ih
  have ok := hx.ok
  have o2 := ok.l
  have o3 := ok.c
  clear ok hx ih
  rw [V.val_of]
  go_enter Tryd.func42, Tryd.ntmps42
  go_wp2
  obtain ⟨W0, hW0⟩ : ∃ W0, w.alloc (Obj.cells #[.int .i64 k, .int .u64 n, .string s, .slice a l.length c, .int .i64 e] 25) = W0 := ⟨_, rfl⟩
  have c3 : W0.cell? ⟨w.heap.size, 3, none⟩ = some (.slice a l.length c) := by rw [← hW0]; simp [World.cell?_alloc_at]
  have hs0 : W0.heap.size = w.heap.size + 1 := by rw [← hW0]; simp
  have hb0 : Below w.heap.size w W0 := by rw [← hW0]; exact bel1 (Below.refl _ _) (Nat.le_refl _) _
  rw [hW0]
  clear hW0
  go_loopw [2, 7] (fun z i wr => ∃ (j : Nat) (y : Int), i = .int .i64 j ∧ z = .int .i64 y ∧ j ≤ l.length ∧ Below W0.heap.size W0 wr) (fun _ i _ => l.length - (intOf i).toNat)
  case atStart => exact ⟨0, _, rfl, rfl, Nat.zero_le _, Below.refl _ _⟩
  case round =>
    obtain ⟨j, y, rfl, rfl, hj, hb⟩ := hrel
    have cc := (hb.cell (p := ⟨w.heap.size, 3, none⟩) (by simp; omega)).trans c3
    have hsz := hb.size
    by_cases hjl : j < l.length
    · by_cases hy : y ≤ 100000
      · obtain ⟨b, o, rfl, hlt, hr⟩ := HX.out.row (by omega)
        obtain ⟨x0, x1, x2, x3, x4⟩ := (hr.below (belOn hb0 (by omega) hb) (by omega)) j hjl
        have hx := IH.out l[j] (List.getElem_mem hjl)
        rw [TaleOk, V.val_eq] at hx
        have HH := hide hx
        clear hx
        go_wp2_with fail
        refine Calls.mono (HH.out _ _ n₀ wr (by omega) ((HX.out.sub _ (List.getElem_mem hjl)).keep (belOn hb0 (by omega) hb) hn)) ?_
        rintro e w1 ⟨z, rfl, hb1⟩
        have hbw := belOn hb (by omega) hb1
        go_wp2
        go_roundw
        case rel => exact ⟨j + 1, z, by go_num, rfl, hjl, hbw⟩
        case measure => simp [intOf]; omega
      · have hy' : ¬ y ≤ 100000 := hy
        go_wp2
        go_ret
        first | exact ⟨y, rfl, belOn hb0 (by omega) hb⟩ | exact ⟨⟨y, rfl⟩, belOn hb0 (by omega) hb⟩
    · obtain rfl : j = l.length := by omega
      go_wp2
      go_ret
      first | exact ⟨y, rfl, belOn hb0 (by omega) hb⟩ | exact ⟨⟨y, rfl⟩, belOn hb0 (by omega) hb⟩
theorem long_any (x : V) (n₀ : Nat) (w : World) (hn : n₀ ≤ w.heap.size) (hx : Lies n₀ w x) :
    Calls Tryd.prog 22 #[x.val] w fun e w' => (e = .returned (.bool true) ∧ Below w.heap.size w w') ∨ (e = .returned (.bool false) ∧ Below w.heap.size w w') := by
  rw [V.val_eq]
  have HW : Hid (∀ w1, Below w.heap.size w w1 → Calls Tryd.prog 42 #[.agg #[.int .i64 x.k, .int .u64 x.n, .string x.s, .slice x.a x.l.length x.c, .int .i64 x.e], .int .i64 1, .int .i64 0] w1 fun e w' => ∃ z, e = .returned (.int .i64 z) ∧ Below w1.heap.size w1 w') := by
    intro w1 hb
    have := tale_any x 1 0 n₀ w1 (by have := hb.size; omega) (hx.keep hb hn)
    rwa [V.val_eq] at this
  clear hx
  go_enter Tryd.func22, Tryd.ntmps22
  go_wp2_with fail
  refine Calls.mono (HW.out _ (bel1 (Below.refl _ _) (Nat.le_refl _) _)) ?_
  rintro e w1 ⟨z, rfl, hb1⟩
  have hbw := belOn (bel1 (Below.refl w.heap.size w) (Nat.le_refl _) _) (by simp) hb1
  by_cases hz : z ≤ 100000
  · go_wp2
    go_ret
    exact .inr ⟨by first | rfl | (simp; omega), hbw⟩
  · go_wp2
    go_ret
    exact .inl ⟨by first | rfl | (simp; omega), hbw⟩
end Go.Proofs.YtaedlnliglmomaaDoor
