/- longshoreref02's Depth, Great, Long. -/
import Derived.Test.YtdlkakllcfkhfaaDoorVWeigh
import Derived.Test.YtdlkakllcfkhfaaDoorVDepth
namespace Go.Proofs.YtdlkakllcfkhfaaDoor
open Go.RowKit
set_option linter.unusedVariables false
set_option linter.unusedSimpArgs false

/-- the greatest of some numbers -/
def mxl : List Nat → Nat
  | [] => 0
  | x :: l => max x (mxl l)
def T.dep : T → Nat := V.fold (fun p ds => mxl ds + 1) 0
def T.deps : List T → Nat
  | [] => 0
  | x :: l => max (T.dep x) (T.deps l)
theorem deps_mxl (l : List T) : mxl (l.map T.dep) = T.deps l := by
  induction l with
  | nil => rfl
  | cons x l ih => rw [List.map_cons, mxl, T.deps, ih]
theorem T.dep_of (k n : Int) (s : ByteArray) (e : Int) (l : List T) : T.dep (T.of k n s e l) = T.deps l + 1 := by
  rw [← deps_mxl]
  unfold T.dep T.of
  rw [V.fold_of]
theorem deps_le (l : List V) (ih : ∀ x ∈ l, T.dep x.t ≤ T.wt x.t) : T.deps (V.ts l) ≤ T.wts (V.ts l) := by
  induction l with
  | nil => simp [V.ts, T.deps]
  | cons x l ihl =>
    rw [V.ts, T.deps, T.wts]
    have h1 := ih x (by simp)
    have h2 := ihl (fun y hy => ih y (by simp [hy]))
    omega
theorem dep_le (v : V) : T.dep v.t ≤ T.wt v.t := by
  refine V.ind (Q := fun v => T.dep v.t ≤ T.wt v.t) ?_ v
  intro k n s a c e l ih
  rw [V.t_of, T.dep_of, T.wt_of]
  have := deps_le l ih
  omega
theorem deps_snoc (l : List V) (j : Nat) (h : j < l.length) : T.deps (V.ts (l.take (j + 1))) = max (T.deps (V.ts (l.take j))) (T.dep l[j].t) := by
  induction l generalizing j with
  | nil => simp at h
  | cons x l ih =>
    cases j with
    | zero => simp [V.ts, T.deps]
    | succ j =>
      have := ih j (by simpa using h)
      simp only [List.take_succ_cons, V.ts, T.deps, List.getElem_cons_succ]
      omega
theorem deps_take (l : List V) (j : Nat) : T.deps (V.ts (l.take j)) ≤ T.wts (V.ts l) := by
  induction l generalizing j with
  | nil => simp [V.ts, T.deps]
  | cons x l ih =>
    cases j with
    | zero => simp [V.ts, T.deps]
    | succ j =>
      have := ih j
      have := dep_le x
      simp only [List.take_succ_cons, V.ts, T.deps, T.wts]
      omega
theorem wt_mem' {l : List V} {x : V} (h : x ∈ l) : T.wt x.t ≤ T.wts (V.ts l) := by
  induction l with
  | nil => simp at h
  | cons y l ih =>
    rw [V.ts, T.wts]
    rcases List.mem_cons.1 h with rfl | h
    · omega
    · have := ih h
      omega
theorem wt_pos' (v : V) : 1 ≤ T.wt v.t := by
  obtain ⟨k, n, s, a, c, e, l, rfl⟩ := V.ex v
  rw [V.t_of, T.wt_of]
  omega

/-- the greatest depth told is the depth -/
theorem mx_fold (l : List (Int × V)) (a : Int) (h : 0 ≤ a) : List.foldl (fun m x => max m x.1) a l = max a (mx l) := by
  induction l generalizing a with
  | nil => unfold mx; simp; omega
  | cons x l ih =>
    unfold mx
    rw [List.foldl_cons, List.foldl_cons, ih _ (by omega), ih _ (by omega)]
    omega
theorem mx_nonneg (l : List (Int × V)) : 0 ≤ mx l := by
  have := mx_fold l 0 (by omega)
  unfold mx at *
  omega
theorem mx_cons (x : Int × V) (l : List (Int × V)) (h : 0 ≤ x.1) : mx (x :: l) = max x.1 (mx l) := by
  have : mx (x :: l) = List.foldl (fun m x => max m x.1) (max 0 x.1) l := rfl
  rw [this, mx_fold _ _ (by omega)]
  omega
theorem mx_append (l m : List (Int × V)) : mx (l ++ m) = max (mx l) (mx m) := by
  have : mx (l ++ m) = List.foldl (fun m x => max m x.1) (mx l) m := by unfold mx; rw [List.foldl_append]
  rw [this, mx_fold _ _ (mx_nonneg l)]
theorem wrap_small {d : Int} (h0 : 0 ≤ d) (h : d ≤ 4611686018427387904) : wrap64 d = d := by
  unfold wrap64; omega
theorem mx_alls (l : List V) (ih : ∀ x ∈ l, ∀ d : Int, 1 ≤ d → d + T.wt x.t ≤ 4611686018427387904 → mx (x.all d) = d + T.dep x.t - 1) (d : Int) (h1 : 1 ≤ d) (h2 : d + T.wts (V.ts l) ≤ 4611686018427387904) :
    mx (V.alls d l) = if l.length = 0 then 0 else d + T.deps (V.ts l) - 1 := by
  induction l with
  | nil => rfl
  | cons x l ihl =>
    rw [V.ts, T.wts] at h2
    rw [V.alls, mx_append, ih x (by simp) d h1 (by omega), ihl (fun y hy => ih y (by simp [hy])) (by omega), V.ts, T.deps]
    have hx : 1 ≤ T.dep x.t := by
      obtain ⟨k, n, s, a, c, e, l, rfl⟩ := V.ex x
      rw [V.t_of, T.dep_of]
      omega
    rw [if_neg (show ¬ (x :: l).length = 0 by simp)]
    by_cases h : l.length = 0
    · rw [if_pos h]
      obtain rfl := List.eq_nil_of_length_eq_zero h
      simp [V.ts, T.deps]
      omega
    · rw [if_neg h]
      omega
theorem mx_all (v : V) (d : Int) (h1 : 1 ≤ d) (h2 : d + T.wt v.t ≤ 4611686018427387904) : mx (v.all d) = d + T.dep v.t - 1 := by
  refine V.ind (Q := fun v => ∀ d : Int, 1 ≤ d → d + T.wt v.t ≤ 4611686018427387904 → mx (v.all d) = d + T.dep v.t - 1) ?_ v d h1 h2
  intro k n s a c e l ih d h1 h2
  rw [V.t_of, T.wt_of] at h2
  rw [V.all_of, mx_cons _ _ (by show 0 ≤ d; omega), V.t_of, T.dep_of, wrap_small (by omega) (by omega), mx_alls l ih (d + 1) (by omega) (by omega)]
  by_cases h : l.length = 0
  · rw [if_pos h]
    obtain rfl := List.eq_nil_of_length_eq_zero h
    simp [V.ts, T.deps]
    omega
  · rw [if_neg h]
    have hx : 1 ≤ T.deps (V.ts l) := by
      cases l with
      | nil => simp at h
      | cons x l =>
        obtain ⟨k, n, s, a, c, e, l', rfl⟩ := V.ex x
        rw [V.ts, T.deps, V.t_of, T.dep_of]
        omega
    show max d _ = _
    omega

/-- what longshoreref02.Depth is asked -/
def RDepOk (x : V) : Prop := T.wt x.t ≤ 100000 → ∀ (n₀ : Nat) (w : World), n₀ ≤ w.heap.size → Lies n₀ w x →
  Calls Tryd.prog 25 #[x.val] w fun e w' => e = .returned (.int .i64 (T.dep x.t : Int)) ∧ Below w.heap.size w w'

set_option maxRecDepth 100000 in
set_option maxHeartbeats 1000000 in
theorem rdepth_any : ∀ x, RDepOk x := by
  refine V.ind ?_
  intro k n s a c e l ih hw n₀ w hn hx
  rw [V.t_of, T.wt_of] at hw
  have HX := hide hx
  have IH := hide ih
  have ok := hx.ok
  have o2 := ok.l
  have o3 := ok.c
  clear ok hx ih
  rw [V.val_of]
  go_enter Tryd.func25, Tryd.ntmps25
  go_wp2
  obtain ⟨W0, hW0⟩ : ∃ W0, w.alloc (Obj.cells #[.int .i64 k, .int .u64 n, .string s, .slice a l.length c, .int .i64 e] 25) = W0 := ⟨_, rfl⟩
  have c3 : W0.cell? ⟨w.heap.size, 3, none⟩ = some (.slice a l.length c) := by rw [← hW0]; simp [World.cell?_alloc_at]
  have hs0 : W0.heap.size = w.heap.size + 1 := by rw [← hW0]; simp
  have hb0 : Below w.heap.size w W0 := by rw [← hW0]; exact bel1 (Below.refl _ _) (Nat.le_refl _) _
  rw [hW0]
  clear hW0
  go_loopw [3, 4] (fun z i wr => ∃ (j d : Nat), i = .int .i64 j ∧ z = .int .i64 (d : Int) ∧ j ≤ l.length ∧ d ≤ 100000 ∧ Below W0.heap.size W0 wr ∧ Hid (d = T.deps (V.ts (l.take j)))) (fun _ i _ => l.length - (intOf i).toNat)
  case atStart => exact ⟨0, 0, rfl, rfl, Nat.zero_le _, by omega, Below.refl _ _, by rw [List.take_zero]; rfl⟩
  case round =>
    obtain ⟨j, d, rfl, rfl, hj, hd, hb, HD⟩ := hrel
    have cc := (hb.cell (p := ⟨w.heap.size, 3, none⟩) (by simp; omega)).trans c3
    have hsz := hb.size
    by_cases hjl : j < l.length
    · obtain ⟨b, o, rfl, hlt, hr⟩ := HX.out.row (by omega)
      obtain ⟨x0, x1, x2, x3, x4⟩ := (hr.below (belOn hb0 (by omega) hb) (by omega)) j hjl
      have hwj : T.wt l[j].t ≤ 100000 := by have := wt_mem' (List.getElem_mem hjl); omega
      have hx := IH.out l[j] (List.getElem_mem hjl) hwj n₀ wr (by omega) ((HX.out.sub _ (List.getElem_mem hjl)).keep (belOn hb0 (by omega) hb) hn)
      rw [V.val_eq] at hx
      have HH := hide hx
      clear hx
      have HS := hide (deps_snoc l j hjl)
      have hdj := dep_le l[j]
      obtain ⟨q, hq⟩ : ∃ q, T.dep l[j].t = q := ⟨_, rfl⟩
      rw [hq] at hdj HH HS
      clear hq
      go_wp2_with fail
      refine Calls.mono HH.out ?_
      rintro e w1 ⟨rfl, hb1⟩
      have hbw := belOn hb (by omega) hb1
      clear hb1
      by_cases hqd : q ≤ d
      · go_wp2
        all_goals
          go_roundw
          case rel => exact ⟨j + 1, d, by go_num, by first | rfl | (congr 1; omega), hjl, hd, hbw, by rw [HS.out, ← HD.out]; show d = max d q; omega⟩
          case measure => simp [intOf]; omega
      · go_wp2
        all_goals
          go_roundw
          case rel => exact ⟨j + 1, q, by go_num, by first | rfl | (congr 1; omega), hjl, by omega, hbw, by rw [HS.out, ← HD.out]; show q = max d q; omega⟩
          case measure => simp [intOf]; omega
    · obtain rfl : j = l.length := by omega
      go_wp2
      go_ret
      refine ⟨ret_int ?_, belOn hb0 (by omega) hb⟩
      have := HD.out
      rw [List.take_length] at this
      rw [V.t_of, T.dep_of, ← this]
      simp

/-- Great -/
theorem great_any (x : V) (n₀ : Nat) (w : World) (hn : n₀ ≤ w.heap.size) (hx : Lies n₀ w x) :
    Calls Tryd.prog 10 #[x.val] w fun e w' => (e = .returned (.bool true) ∧ Below w.heap.size w w') ∨ (e = .returned (.bool false) ∧ T.wt x.t ≤ 100000 ∧ Below w.heap.size w w') := by
  rw [V.val_eq]
  have HW : Hid (∀ w1, Below w.heap.size w w1 → Calls Tryd.prog 33 #[.agg #[.int .i64 x.k, .int .u64 x.n, .string x.s, .slice x.a x.l.length x.c, .int .i64 x.e], .int .i64 0] w1 fun e w' => ∃ z, e = .returned (.int .i64 z) ∧ Hid (0 ≤ z ∧ z ≤ 35184372088832 ∧ (z ≤ 100000 → z = 0 + T.wt x.t)) ∧ Below w1.heap.size w1 w') := by
    intro w1 hb
    have := weigh_any x 0 n₀ w1 (by have := hb.size; omega) (hx.keep hb hn) (by omega) (by omega)
    rwa [V.val_eq] at this
  clear hx
  go_enter Tryd.func10, Tryd.ntmps10
  go_wp2_with fail
  refine Calls.mono (HW.out _ (bel1 (Below.refl _ _) (Nat.le_refl _) _)) ?_
  rintro e w1 ⟨z, rfl, HZ, hb1⟩
  have hbw := belOn (bel1 (Below.refl w.heap.size w) (Nat.le_refl _) _) (by simp) hb1
  by_cases hz : z ≤ 100000
  · go_wp2
    go_ret
    exact .inr ⟨by first | rfl | (simp; omega), by have := HZ.out.2.2 hz; omega, hbw⟩
  · go_wp2
    go_ret
    exact .inl ⟨by first | rfl | (simp; omega), hbw⟩

/-- tale answers a number -/
def TaleOk (x : V) : Prop := ∀ (d m : Int) (n₀ : Nat) (w : World), n₀ ≤ w.heap.size → Lies n₀ w x →
  Calls Tryd.prog 46 #[x.val, .int .i64 d, .int .i64 m] w fun e w' => ∃ z, e = .returned (.int .i64 z) ∧ Below w.heap.size w w'
set_option maxRecDepth 100000 in
set_option maxHeartbeats 1000000 in
theorem tale_any : ∀ x, TaleOk x := by
  refine V.ind ?_
  intro k n s a c e l ih d m n₀ w hn hx
  have HX := hide hx
  have IH := hide ih
  have ok := hx.ok
  have o2 := ok.l
  have o3 := ok.c
  clear ok hx ih
  rw [V.val_of]
  go_enter Tryd.func46, Tryd.ntmps46
  go_wp2
  obtain ⟨W0, hW0⟩ : ∃ W0, w.alloc (Obj.cells #[.int .i64 k, .int .u64 n, .string s, .slice a l.length c, .int .i64 e] 25) = W0 := ⟨_, rfl⟩
  have c3 : W0.cell? ⟨w.heap.size, 3, none⟩ = some (.slice a l.length c) := by rw [← hW0]; simp [World.cell?_alloc_at]
  have hs0 : W0.heap.size = w.heap.size + 1 := by rw [← hW0]; simp
  have hb0 : Below w.heap.size w W0 := by rw [← hW0]; exact bel1 (Below.refl _ _) (Nat.le_refl _) _
  rw [hW0]
  clear hW0
  go_loopw [2, 7] (fun z i wr => ∃ (j : Nat) (y : Int), i = .int .i64 j ∧ z = .int .i64 y ∧ j ≤ l.length ∧ Below W0.heap.size W0 wr) (fun _ i _ => l.length - (intOf i).toNat)
  case atStart => exact ⟨0, _, rfl, rfl, Nat.zero_le _, Below.refl _ _⟩
  case round =>
    obtain ⟨j, y, rfl, rfl, hj, hb⟩ := hrel
    have cc := (hb.cell (p := ⟨w.heap.size, 3, none⟩) (by simp; omega)).trans c3
    have hsz := hb.size
    by_cases hjl : j < l.length
    · by_cases hy : y ≤ 100000
      · obtain ⟨b, o, rfl, hlt, hr⟩ := HX.out.row (by omega)
        obtain ⟨x0, x1, x2, x3, x4⟩ := (hr.below (belOn hb0 (by omega) hb) (by omega)) j hjl
        have hx := IH.out l[j] (List.getElem_mem hjl)
        rw [TaleOk, V.val_eq] at hx
        have HH := hide hx
        clear hx
        go_wp2_with fail
        refine Calls.mono (HH.out _ _ n₀ wr (by omega) ((HX.out.sub _ (List.getElem_mem hjl)).keep (belOn hb0 (by omega) hb) hn)) ?_
        rintro e w1 ⟨z, rfl, hb1⟩
        have hbw := belOn hb (by omega) hb1
        go_wp2
        go_roundw
        case rel => exact ⟨j + 1, z, by go_num, rfl, hjl, hbw⟩
        case measure => simp [intOf]; omega
      · have hy' : ¬ y ≤ 100000 := hy
        go_wp2
        go_ret
        first | exact ⟨y, rfl, belOn hb0 (by omega) hb⟩ | exact ⟨⟨y, rfl⟩, belOn hb0 (by omega) hb⟩
    · obtain rfl : j = l.length := by omega
      go_wp2
      go_ret
      first | exact ⟨y, rfl, belOn hb0 (by omega) hb⟩ | exact ⟨⟨y, rfl⟩, belOn hb0 (by omega) hb⟩
theorem long_any (x : V) (n₀ : Nat) (w : World) (hn : n₀ ≤ w.heap.size) (hx : Lies n₀ w x) :
    Calls Tryd.prog 23 #[x.val] w fun e w' => (e = .returned (.bool true) ∧ Below w.heap.size w w') ∨ (e = .returned (.bool false) ∧ Below w.heap.size w w') := by
  rw [V.val_eq]
  have HW : Hid (∀ w1, Below w.heap.size w w1 → Calls Tryd.prog 46 #[.agg #[.int .i64 x.k, .int .u64 x.n, .string x.s, .slice x.a x.l.length x.c, .int .i64 x.e], .int .i64 1, .int .i64 0] w1 fun e w' => ∃ z, e = .returned (.int .i64 z) ∧ Below w1.heap.size w1 w') := by
    intro w1 hb
    have := tale_any x 1 0 n₀ w1 (by have := hb.size; omega) (hx.keep hb hn)
    rwa [V.val_eq] at this
  clear hx
  go_enter Tryd.func23, Tryd.ntmps23
  go_wp2_with fail
  refine Calls.mono (HW.out _ (bel1 (Below.refl _ _) (Nat.le_refl _) _)) ?_
  rintro e w1 ⟨z, rfl, hb1⟩
  have hbw := belOn (bel1 (Below.refl w.heap.size w) (Nat.le_refl _) _) (by simp) hb1
  by_cases hz : z ≤ 100000
  · go_wp2
    go_ret
    exact .inr ⟨by first | rfl | (simp; omega), hbw⟩
  · go_wp2
    go_ret
    exact .inl ⟨by first | rfl | (simp; omega), hbw⟩
end Go.Proofs.YtdlkakllcfkhfaaDoor
