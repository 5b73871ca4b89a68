
/- shape.owned and shape.Pack. -/
import Derived.Test.YtfoegajgnbdoiaaGreatDoorHFill
import Derived.Test.YtfoegajgnbdoiaaGreatDoorVList
namespace Go.Proofs.YtfoegajgnbdoiaaGreatDoor
open Go.RowKit
set_option linter.unusedVariables false
set_option linter.unusedSimpArgs false
set_option maxRecDepth 100000 in
theorem run_field3 (a0 a1 a2 a4 : Value) (p : Option Addr) (n c : Nat) (w : World) : (Instr.field 34 (.agg #[a0, a1, a2, .slice p n c, a4]) 3).run Tryz.prog w = .ok (.slice p n c) w := by
  first
  | kernel_rfl
  | rfl
set_option maxRecDepth 100000 in
set_option maxHeartbeats 2000000 in
theorem owned_list (l : List V) (a : Option Addr) (c n₀ : Nat) (w : World) (hn : n₀ ≤ w.heap.size) (hc : l.length ≤ c) (hcc : l.length ≤ 2199023255552) (hr : 0 < l.length → ∃ b o, a = some ⟨b, o, none⟩ ∧ b < n₀ ∧ Row w b o l) (ls : ∀ x ∈ l, Lies n₀ w x) :
    Calls Tryz.prog 46 #[.slice a l.length c] w fun e w' => ∃ y : V, e = .returned (.slice y.a y.l.length y.c) ∧
      Hid (V.ts y.l = V.ts l ∧ LiesIn (fun b => w.heap.size ≤ b ∧ b < w'.heap.size) w' y) ∧ Below w.heap.size w w' := by
  have HL := hide (listed_any l a c n₀ w hn hc hcc hr ls)
  clear hr ls
  go_enter Tryz.func46, Tryz.ntmps46
  go_wp2_with fail
  refine HL.out.mono ?_
  rintro e w1 ⟨y, rfl, HY, hb⟩
  go_wp2
  rw [run_field3]
  go_wp2
  refine bodyPost_ret (v := .slice y.a y.l.length y.c) (by simp [results, Tryz.results46, go_sem]) rfl ⟨y, rfl, ⟨?_, HY.out.2⟩, hb⟩
  have h := HY.out.1
  obtain ⟨k', n', s', a', c', e', l', rfl⟩ := V.ex y
  rw [V.t_of] at h
  rw [V.l_of]
  have := congrArg V.l h
  have e1 : V.l (T.of k' n' s' e' (V.ts l')) = V.ts l' := V.l_of _ _ _ _ _ _ _
  have e2 : V.l (T.of 21 0 ⟨#[]⟩ 0 (V.ts l)) = V.ts l := V.l_of _ _ _ _ _ _ _
  rw [e1, e2] at this
  exact this
set_option maxRecDepth 100000 in
set_option maxHeartbeats 4000000 in
theorem pack_gen (kind : Int) (a : Option Addr) (n c : Nat) (w : World) (Pv : V → Prop)
    (hp : ∀ W, Below w.heap.size w W → Calls Tryz.prog 42 #[.agg #[.int .i64 kind, .slice a n c]] W (fun e w' => ∃ v : V, e = VN v 0 ∧ Hid (Pv v ∧ Lies w'.heap.size w' v) ∧ Below W.heap.size W w')) :
    Calls Tryz.prog 24 #[.agg #[.int .i64 kind, .slice a n c]] w (fun e w' => ∃ y : V, e = VN y 0 ∧ Hid ((∃ v, Pv v ∧ y.t = v.t) ∧ Lies w'.heap.size w' y) ∧ Below w.heap.size w w') := by
  obtain ⟨W0, hW0⟩ : ∃ W0, (w.alloc (Obj.cells #[.int .i64 kind, .slice a n c] 39)).alloc (Obj.cells #[.int .i64 0, .int .u64 0, .string ⟨#[]⟩, .slice none 0 0, .int .i64 0] 34) = W0 := ⟨_, rfl⟩
  have hs0 : W0.heap.size = w.heap.size + 2 := by rw [← hW0]; simp
  have hb0 : Below w.heap.size w W0 := by rw [← hW0]; exact bel2 (Below.refl _ _) (Nat.le_refl _) _ _
  have xz : BoxV W0 (w.heap.size + 1) (.of 0 0 ⟨#[]⟩ none 0 0 []) := by
    rw [← hW0]
    unfold BoxV
    rw [V.k_of, V.n_of, V.s_of, V.a_of, V.l_of, V.c_of, V.e_of]
    exact heap_at1 _ _ _
  have HP := hide (hp W0 hb0)
  unfold VN at HP
  have HW0 := hide hW0
  clear hW0 hp
  go_enter Tryz.func24, Tryz.ntmps24
  go_wp2_with fail
  rw [HW0.out]
  refine HP.out.mono ?_
  rintro e1 w1 ⟨v, rfl, HV, hb1⟩
  have hs1 := hb1.size
  obtain ⟨W1, hW1⟩ : ∃ W1, (w1.alloc (Obj.cells #[.int .i64 v.k, .int .u64 v.n, .string v.s, .slice v.a v.l.length v.c, .int .i64 v.e] 34)).alloc (Obj.cells #[.int .i64 v.k, .int .u64 v.n, .string v.s, .slice v.a v.l.length v.c, .int .i64 v.e] 34) = W1 := ⟨_, rfl⟩
  have hsW1 : W1.heap.size = w1.heap.size + 2 := by rw [← hW1]; simp
  have hb11 : Below w1.heap.size w1 W1 := by rw [← hW1]; exact bel2 (Below.refl _ _) (Nat.le_refl _) _ _
  have hx1 : BoxV W1 (w1.heap.size + 1) v := by rw [← hW1]; exact heap_at1 _ _ _
  have ho := owned_list [v] (some ⟨w1.heap.size + 1, 0, none⟩) 1 W1.heap.size W1 (Nat.le_refl _) (by simp) (by simp) (fun _ => ⟨w1.heap.size + 1, 0, rfl, by omega, fun i hi => by
    obtain rfl : i = 0 := by simpa using hi
    obtain ⟨q0, q1, q2, q3, q4⟩ := hx1.cells
    exact ⟨q0, q1, q2, q3, q4⟩⟩) (fun x hx => by
    obtain rfl : x = v := by simpa using hx
    exact (HV.out.2.keep hb11 (Nat.le_refl _)).mono (by omega))
  have HO := hide ho
  have HW1 := hide hW1
  clear ho hW1 hx1
  go_wp2_with fail
  rw [HW1.out]
  refine Calls.mono HO.out ?_
  rintro e2 w2 ⟨y, rfl, HY, hb2⟩
  have hs2 := hb2.size
  have hb12 : Below w1.heap.size w1 w2 := hb11.trans (hb2.mono (by omega))
  have hb02 : Below W0.heap.size W0 w2 := belOn hb1 hs1 hb12
  have hbw2 : Below w.heap.size w w2 := belOn hb0 (by omega) hb02
  obtain ⟨k', n', s', a', c', e', l', rfl⟩ := V.ex y
  have hyt := HY.out.1
  rw [V.l_of] at hyt
  have hlen : l'.length = 1 := by have := congrArg List.length hyt; rwa [V.ts_length, V.ts_length] at this
  obtain ⟨x, rfl⟩ : ∃ x, l' = [x] := by
    match l', hlen with
    | [x], _ => exact ⟨x, rfl⟩
  have hxt : x.t = v.t := by
    have h := hyt
    simp only [V.ts] at h
    exact (List.cons.inj h).1
  obtain ⟨b, o, ha, hbq, hrow⟩ := HY.out.2.row (by simp)
  have hxl := HY.out.2.sub x (by simp)
  rw [V.a_of, V.l_of, V.c_of, ha]
  obtain ⟨q0, q1, q2, q3, q4⟩ := hrow 0 (by simp)
  have q0' : w2.cell? ⟨b, o, none⟩ = some (.int .i64 x.k) := q0
  have q1' : w2.cell? ⟨b, o + 1, none⟩ = some (.int .u64 x.n) := q1
  have q2' : w2.cell? ⟨b, o + 2, none⟩ = some (.string x.s) := q2
  have q3' : w2.cell? ⟨b, o + 3, none⟩ = some (.slice x.a x.l.length x.c) := q3
  have q4' : w2.cell? ⟨b, o + 4, none⟩ = some (.int .i64 x.e) := q4
  have xz1 := xz.below hb02 (by omega)
  obtain ⟨z0, z1, z2, z3, z4⟩ := xz1.cells
  have fz := (show Blk w2 (w.heap.size + 1) 34 5 from ⟨_, xz1, rfl⟩).free
  have hz5 : w.heap.size + 1 < w2.heap.size := by omega
  have hbl : b < w2.heap.size := by omega
  have HXL := hide hxl
  clear q0 q1 q2 q3 q4 xz1 hxl hrow hyt
  go_wp2
  have hbz : Below w.heap.size w _ := put5_below (y := x) (o := 0) (b := w.heap.size + 1) hbw2 (by omega)
  have hsm : ∀ b', b' ≠ w.heap.size + 1 → Same w2 (put5 w2 (w.heap.size + 1) 0 x) b' := fun b' hb' => put5_same _ _ _ _ _ hb'
  have hsz := put5_size w2 (w.heap.size + 1) 0 x
  rw [← put5_eq] at hbz hsm hsz
  refine bodyPost_ret (v := .tuple #[.agg #[.int .i64 x.k, .int .u64 x.n, .string x.s, .slice x.a x.l.length x.c, .int .i64 x.e], .int .i64 0]) (by simp [results, Tryz.results24, go_sem, z0, z1, z2, z3, z4]) rfl ⟨x, rfl, ⟨⟨v, HV.out.1, hxt⟩, ?_⟩, hbz⟩
  exact LiesIn.keep HXL.out (fun b' hq => hsm b' (by have h1 : W1.heap.size ≤ b' := hq.1; omega)) (fun b' hq => by
    have h2 : b' < w2.heap.size := hq.2
    rw [← hsz] at h2
    exact h2)
end Go.Proofs.YtfoegajgnbdoiaaGreatDoor
