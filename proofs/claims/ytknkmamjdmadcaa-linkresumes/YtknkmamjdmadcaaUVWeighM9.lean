import Derived.Test.YtknkmamjdmadcaaProg
import Derived.Test.YtknkmamjdmadcaaUVMadeM9
import Derived.WalkLawsBesides
import Derived.Handy
import Derived.Outline

/- longshoreref02's Great. -/
namespace Go.Proofs.Ytknkmamjdmadcaa.U
open Go.RowKit
set_option linter.unusedVariables false

def T.wt : T → Nat := V.fold (fun p ws => 1 + p.s.size / 64 + ws.sum) 0
def T.wts : List T → Nat
  | [] => 0
  | x :: l => T.wt x + T.wts l
theorem wts_sum (l : List T) : (l.map T.wt).sum = T.wts l := by
  induction l with
  | nil => rfl
  | cons x l ih => rw [List.map_cons, List.sum_cons, ih, T.wts]
theorem T.wt_of (k n : Int) (s : ByteArray) (e : Int) (l : List T) : T.wt (T.of k n s e l) = 1 + s.size / 64 + T.wts l := by
  rw [← wts_sum]
  unfold T.wt T.of
  rw [V.fold_of]
theorem wts_snoc (l : List V) (k : Nat) (h : k < l.length) : T.wts (V.ts (l.take (k + 1))) = T.wts (V.ts (l.take k)) + T.wt l[k].t := by
  induction l generalizing k with
  | nil => simp at h
  | cons x l ih =>
    cases k with
    | zero => simp [V.ts, T.wts]
    | succ k =>
      have := ih k (by simpa using h)
      simp only [List.take_succ_cons, V.ts, T.wts, List.getElem_cons_succ]
      omega

def WtOk (x : V) : Prop := ∀ (n : Int) (n₀ : Nat) (w : World), n₀ ≤ w.heap.size → Lies n₀ w x → 0 ≤ n → n ≤ 100000 →
  Calls Try.prog 74 #[x.val, .int .i64 n] w fun e w' => ∃ z, e = .returned (.int .i64 z) ∧ Hid (0 ≤ z ∧ z ≤ 35184372088832 ∧ (z ≤ 100000 → z = n + T.wt x.t)) ∧ Below w.heap.size w w'

set_option maxRecDepth 100000 in
set_option maxHeartbeats 1000000 in
theorem weigh_any : ∀ x, WtOk x := by
  refine V.ind ?_
  intro k n s a c e l ih m n₀ w hn hx h0 h1
  have HX := hide hx
  have IH := hide ih
  have ok := hx.ok
  have o1 := ok.s
  have o2 := ok.l
  have o3 := ok.c
  have OK := hide ok
  clear ok
  clear hx ih
  rw [V.val_of]
  go_enter Try.func74, Try.ntmps74
  go_wp2
  obtain ⟨W0, hW0⟩ : ∃ W0, w.alloc (Obj.cells #[.int .i64 k, .int .u64 n, .string s, .slice a l.length c, .int .i64 e] 48) = W0 := ⟨_, rfl⟩
  have c3 : W0.cell? ⟨w.heap.size, 3, none⟩ = some (.slice a l.length c) := by rw [← hW0]; simp [World.cell?_alloc_at]
  have hs0 : W0.heap.size = w.heap.size + 1 := by rw [← hW0]; simp
  have hb0 : Below w.heap.size w W0 := by rw [← hW0]; exact bel1 (Below.refl _ _) (Nat.le_refl _) _
  rw [hW0]
  clear hW0
  go_loopw [1, 5] (fun z i wr => ∃ (j : Nat) (y : Int), i = .int .i64 j ∧ z = .int .i64 y ∧ j ≤ l.length ∧ Below W0.heap.size W0 wr ∧ Hid (0 ≤ y ∧ y ≤ 35184372088832 ∧ (y ≤ 100000 → y = m + 1 + s.size / 64 + T.wts (V.ts (l.take j))))) (fun _ i _ => l.length - (intOf i).toNat)
  case atStart =>
    refine ⟨0, _, rfl, rfl, Nat.zero_le _, Below.refl _ _, by omega, by omega, fun _ => by simp [V.ts, T.wts]⟩
  case round =>
    obtain ⟨j, y, rfl, rfl, hj, hb, HY⟩ := hrel
    have cc := (hb.cell (p := ⟨w.heap.size, 3, none⟩) (by simp; omega)).trans c3
    by_cases hjl : j < l.length
    · by_cases hy : y ≤ 100000
      · obtain ⟨b, o, rfl, hlt, hr⟩ := HX.out.row (by omega)
        obtain ⟨x0, x1, x2, x3, x4⟩ := (hr.below (belOn hb0 (by omega) hb) (by omega)) j hjl
        have hx := IH.out l[j] (List.getElem_mem hjl) y
        rw [V.val_eq] at hx
        have HH := hide hx
        clear hx
        have hsz := hb.size
        obtain ⟨y1, y2, y3⟩ := HY.out
        go_wp2_with fail
        refine Calls.mono (HH.out n₀ wr (by omega) ((HX.out.sub _ (List.getElem_mem hjl)).keep (belOn hb0 (by omega) hb) hn) y1 hy) ?_
        rintro e w1 ⟨z, rfl, HZ, hb1⟩
        have hbw := belOn hb (by omega) hb1
        go_wp2
        go_roundw
        case rel =>
          refine ⟨j + 1, z, by go_num, rfl, hjl, hbw, HZ.out.1, HZ.out.2.1, fun hz => ?_⟩
          have e1 := HZ.out.2.2 hz
          have e2 := y3 hy
          rw [wts_snoc l j hjl]
          omega
        case measure => simp [intOf]; omega
      · have hy' : ¬ y ≤ 100000 := hy
        go_wp2
        go_ret
        refine ⟨y, rfl, ⟨HY.out.1, HY.out.2.1, fun h => by omega⟩, belOn hb0 (by omega) hb⟩
    · obtain rfl : j = l.length := by omega
      go_wp2
      go_ret
      refine ⟨y, rfl, ⟨HY.out.1, HY.out.2.1, fun h => ?_⟩, belOn hb0 (by omega) hb⟩
      have := HY.out.2.2 h
      rw [List.take_length] at this
      rw [V.t_of, T.wt_of]
      omega

end Go.Proofs.Ytknkmamjdmadcaa.U
