/- E5, E6 -/
import Derived.Test.YthhlpjhkeendcaaGreatDoorS38
import Derived.Deep.RegionHeldLaw
import Derived.Lib.AppendStr
namespace Go.Proofs.YthhlpjhkeendcaaGreatDoor
set_option linter.unusedVariables false
set_option linter.unusedSimpArgs false
namespace E
open Go.RowKit Go.Deep
theorem take_skip {P : Program} {md : Region.Mode} {ops : Array Oper} {Q : Exit → Act → World → Prop} {S : World → Prop} {i d j : Nat} {b : Bool} {oi : Oper} {fuel : Nat} {listed : Array Bool} {tmps : Array Value} {df : List Deferred} {w : World} (hi : ops[i]? = some oi) (hd : oi.dst = some d)
    (hs : Region.noSelect ops = true) (hf : Region.free md ops listed i = true) (hr : (Region.ready md ops listed).contains i = true)
    (hQ : ∀ c a w, Q (.panic c) (a.put (some d) undef) w → Q (.panic c) a w) (hg : oi.guard = some (j, b)) (hy : yielded ops tmps j = some (!b)) (hS : S w)
    (h : wpAnyH P md ops Q S fuel (listed.setIfInBounds i true) ⟨tmps.setIfInBounds d undef, df⟩ w) : wpAnyH P md ops Q S (fuel + 1) listed ⟨tmps, df⟩ w :=
  wpAnyH_take hi hs hf hr (by rw [hd]; exact hQ) (.inr ⟨by unfold Region.wanted; rw [hg]; show (yielded ops tmps j == some b) = false; rw [hy]; cases b <;> rfl, rfl⟩) hS (by rw [hd]; exact h)
theorem take_do {P : Program} {md : Region.Mode} {ops : Array Oper} {Q : Exit → Act → World → Prop} {S : World → Prop} {i d : Nat} {v : Value} {oi : Oper} {fuel : Nat} {listed : Array Bool} {tmps : Array Value} {df : List Deferred} {w : World} (hi : ops[i]? = some oi) (hd : oi.dst = some d)
    (hs : Region.noSelect ops = true) (hf : Region.free md ops listed i = true) (hr : (Region.ready md ops listed).contains i = true)
    (hQ : ∀ c a w, Q (.panic c) (a.put (some d) v) w → Q (.panic c) a w) (hg : oi.guard = none) (hy : ∀ w, S w → (execOp (Act.eval ⟨tmps, df⟩) oi).run P w = .ok (.value v) w) (hS : S w)
    (h : wpAnyH P md ops Q S fuel (listed.setIfInBounds i true) ⟨tmps.setIfInBounds d v, df⟩ w) : wpAnyH P md ops Q S (fuel + 1) listed ⟨tmps, df⟩ w :=
  wpAnyH_take hi hs hf hr (by rw [hd]; exact hQ) (.inl ⟨by unfold Region.wanted; rw [hg], hy⟩) hS (by rw [hd]; exact h)
theorem take_wanted {P : Program} {md : Region.Mode} {ops : Array Oper} {Q : Exit → Act → World → Prop} {S : World → Prop} {i d : Nat} {v : Value} {oi : Oper} {fuel : Nat} {listed : Array Bool} {tmps : Array Value} {df : List Deferred} {w : World} (hi : ops[i]? = some oi) (hd : oi.dst = some d)
    (hs : Region.noSelect ops = true) (hf : Region.free md ops listed i = true) (hr : (Region.ready md ops listed).contains i = true)
    (hQ : ∀ c a w, Q (.panic c) (a.put (some d) v) w → Q (.panic c) a w) (hg : Region.wanted oi (yielded ops tmps) = true) (hy : ∀ w, S w → (execOp (Act.eval ⟨tmps, df⟩) oi).run P w = .ok (.value v) w) (hS : S w)
    (h : wpAnyH P md ops Q S fuel (listed.setIfInBounds i true) ⟨tmps.setIfInBounds d v, df⟩ w) : wpAnyH P md ops Q S (fuel + 1) listed ⟨tmps, df⟩ w :=
  wpAnyH_take hi hs hf hr (by rw [hd]; exact hQ) (.inl ⟨hg, hy⟩) hS (by rw [hd]; exact h)
theorem txt_len (s : ByteArray) : (txt s).length = s.size := by unfold txt; simp
theorem txt_lt (s : ByteArray) : ∀ c ∈ txt s, c < 256 := fun c hc => by
  obtain ⟨u, _, rfl⟩ := List.mem_map.1 hc
  exact u.toNat_lt
theorem wp_app_text {o : Oper} {a : Act} {w : World} {K : Act → World → Prop} {Q : Exit → Act → World → Prop} (sl x : Operand)
    (ho : o.op = .call { callee := .builtin .append, args := #[sl, x], argTypes := #[28, 9] })
    (base : Nat) (v : Value) (l : List Nat) (hs : a.eval sl = v) (hown : Ob base w v l) (s : ByteArray) (hx : a.eval x = .string s) (hz : l.length + s.size ≤ 140737488355328) (hbase : base ≤ w.heap.size)
    (h : ∀ v' w', Ob base w' v' (l ++ txt s) → w.grownBy w' v.ownBlock → K (a.put o.dst v') w') : o.wp Tryz.prog a w K Q := by
  obtain ⟨i0, hi, hz0, hz1, hz2⟩ := info_parts Tryz.info5
  obtain ⟨v', w', hr, h2, h3, h4⟩ := Lib.run_append_own_string (P := Tryz.prog) w base 28 9 o.type 5 i0 Tryz.underlying28 Tryz.underlying9 hi hz0 hz1 hz2 v l.length (l.map bV) hown.1 s (by unfold maxLen; omega) hz hbase
  have h5 := h v' w' ⟨by rw [List.length_append, txt_len, List.map_append, ← str_cells]; exact h2, fun c hc => (List.mem_append.1 hc).elim (hown.2 c) (txt_lt s c)⟩ h3
  unfold Oper.wp execOp
  simp only [ho, resolve, invoke, builtin, Sem.run_bind, Sem.run_pure, Result.andThen_ok, List.map_toArray, List.map_cons, List.map_nil, hs, hx, hr]
  exact h5
theorem bytes_rb (w : World) (s : ByteArray) : ∃ cap W', (convert 9 28 (.string s)).run Tryz.prog w = .ok (.slice (some ⟨w.heap.size, 0, none⟩) s.size cap) W' ∧ Rb W' (.slice (some ⟨w.heap.size, 0, none⟩) s.size cap) (txt s) ∧ Below w.heap.size w W' := by
  have hr := run_bytes_of_string (P := Tryz.prog) w 9 28 5 s Tryz.underlying9 Tryz.underlying28 Tryz.underlying5
  have hge := grownCap_ge w s.size 0 5
  refine ⟨_, _, hr, ⟨_, _, by rw [txt_len], (fun e => by cases e), by rw [txt_len]; exact hge, ⟨rfl, txt_lt s, fun _ => ⟨w.heap.size, 0, rfl, by simp, fun j hj => ?_⟩⟩⟩, (bel_drewN w 1).alloc (by simp) _⟩
  have hjs : j < s.data.size := by rw [txt_len] at hj; exact hj
  have e : ∀ o, (w.drew.alloc o).heap[w.heap.size]? = some o := fun o => heap_lst w.drew o
  simp only [World.cell?, e, Nat.zero_add]
  unfold bytesRow
  rw [Array.getElem?_append_left (by simpa using hjs)]
  simp [txt, hjs, List.getD_eq_getElem?_getD]
  exact ⟨s.data[j], by rw [Array.getElem?_eq_getElem hjs], by rw [Array.getElem?_eq_getElem hjs]; rfl⟩
set_option maxRecDepth 100000 in
set_option maxHeartbeats 4000000 in
theorem fixed_one (c : Nat) (v : V) (w : World) (hc : c = 65) :
    Calls Tryz.prog 50 #[.int .i64 (c : Int), .agg #[.int .i64 v.k, .int .u64 v.n, .string v.s, .slice v.a v.l.length v.c, .int .i64 v.e]] w fun e w' => ∃ u, e = .returned u ∧ Two w w' [] (decide (v.n = 1)) u := by
  obtain ⟨V0, hV0⟩ : ∃ V0, w.alloc (.cells #[.int .i64 v.k, .int .u64 v.n, .string v.s, .slice v.a v.l.length v.c, .int .i64 v.e] 25) = V0 := ⟨_, rfl⟩
  have b0 : V0.heap[w.heap.size]? = some (.cells #[.int .i64 v.k, .int .u64 v.n, .string v.s, .slice v.a v.l.length v.c, .int .i64 v.e] 25 (0, 0)) := hV0 ▸ heap_lst w _
  have HB0 : Hid (Below w.heap.size w V0) := hV0 ▸ bel1 (Below.refl _ _) (Nat.le_refl _) _
  have HC : Hid (∀ W, Below V0.heap.size V0 W → W.cell? ⟨w.heap.size, 0, none⟩ = some (.int .i64 v.k) ∧ W.cell? ⟨w.heap.size, 1, none⟩ = some (.int .u64 v.n) ∧ W.cell? ⟨w.heap.size, 2, none⟩ = some (.string v.s) ∧ W.cell? ⟨w.heap.size, 3, none⟩ = some (.slice v.a v.l.length v.c) ∧ W.cell? ⟨w.heap.size, 4, none⟩ = some (.int .i64 v.e) ∧ w.heap.size < W.heap.size) := fun W hb => by
    have hl := (Array.getElem?_eq_some_iff.1 b0).1
    have e := (hb.block _ hl).trans b0
    exact ⟨by simp [World.cell?, e], by simp [World.cell?, e], by simp [World.cell?, e], by simp [World.cell?, e], by simp [World.cell?, e], Nat.lt_of_lt_of_le hl hb.size⟩
  have HV0 := hide hV0
  clear hV0 b0
  have HW := hide (width_any c (by rcases hc with rfl <;> decide) V0)
  rcases hc with rfl
  all_goals
    go_enter Tryz.func50, Tryz.ntmps50
    go_wp2_with (first | (rw [HV0.out]; refine Shut.out ?_))
    unfold Shut
    obtain ⟨c0, c1, c2, c3, c4, cl⟩ := HC.out V0 (Below.refl _ _)
    by_cases hq : v.n = 1
    · have hb1 : (v.n == 1) = true := by rw [beq_iff_eq]; omega
      go_wp2_with (first | (go_at_call 78; refine HW.out.mono ?_; rintro e0 w0 ⟨rfl, rfl⟩))
      go_quiet (fail)
      go_wp2
      go_ret2
      exact ⟨_, rfl, .slice none 0 0, (by show Value.tuple #[.slice none 0 0, .bool true] = _; simp [hq]), Rb.nil _, HB0.out.trans ((bel_drewN _ _).mono HB0.out.size), At.nil _ _ _⟩
    · have hb1 : (v.n == 1) = false := by rw [beq_eq_false_iff_ne]; omega
      go_wp2_with (first | (go_at_call 78; refine HW.out.mono ?_; rintro e0 w0 ⟨rfl, rfl⟩))
      go_quiet (fail)
      go_wp2
      go_ret2
      exact ⟨_, rfl, .slice none 0 0, (by show Value.tuple #[.slice none 0 0, .bool false] = _; simp [hq]), Rb.nil _, HB0.out.trans ((bel_drewN _ _).mono HB0.out.size), At.nil _ _ _⟩
set_option maxRecDepth 100000 in
set_option maxHeartbeats 4000000 in
theorem fixed_zero (c : Nat) (v : V) (w : World) (hc : c = 66 ∨ c = 67 ∨ c = 68) :
    Calls Tryz.prog 50 #[.int .i64 (c : Int), .agg #[.int .i64 v.k, .int .u64 v.n, .string v.s, .slice v.a v.l.length v.c, .int .i64 v.e]] w fun e w' => ∃ u, e = .returned u ∧ Two w w' [] (decide (v.n = 0)) u := by
  obtain ⟨V0, hV0⟩ : ∃ V0, w.alloc (.cells #[.int .i64 v.k, .int .u64 v.n, .string v.s, .slice v.a v.l.length v.c, .int .i64 v.e] 25) = V0 := ⟨_, rfl⟩
  have b0 : V0.heap[w.heap.size]? = some (.cells #[.int .i64 v.k, .int .u64 v.n, .string v.s, .slice v.a v.l.length v.c, .int .i64 v.e] 25 (0, 0)) := hV0 ▸ heap_lst w _
  have HB0 : Hid (Below w.heap.size w V0) := hV0 ▸ bel1 (Below.refl _ _) (Nat.le_refl _) _
  have HC : Hid (∀ W, Below V0.heap.size V0 W → W.cell? ⟨w.heap.size, 0, none⟩ = some (.int .i64 v.k) ∧ W.cell? ⟨w.heap.size, 1, none⟩ = some (.int .u64 v.n) ∧ W.cell? ⟨w.heap.size, 2, none⟩ = some (.string v.s) ∧ W.cell? ⟨w.heap.size, 3, none⟩ = some (.slice v.a v.l.length v.c) ∧ W.cell? ⟨w.heap.size, 4, none⟩ = some (.int .i64 v.e) ∧ w.heap.size < W.heap.size) := fun W hb => by
    have hl := (Array.getElem?_eq_some_iff.1 b0).1
    have e := (hb.block _ hl).trans b0
    exact ⟨by simp [World.cell?, e], by simp [World.cell?, e], by simp [World.cell?, e], by simp [World.cell?, e], by simp [World.cell?, e], Nat.lt_of_lt_of_le hl hb.size⟩
  have HV0 := hide hV0
  clear hV0 b0
  have HW := hide (width_any c (by rcases hc with rfl | rfl | rfl <;> decide) V0)
  rcases hc with rfl | rfl | rfl
  all_goals
    go_enter Tryz.func50, Tryz.ntmps50
    go_wp2_with (first | (rw [HV0.out]; refine Shut.out ?_))
    unfold Shut
    obtain ⟨c0, c1, c2, c3, c4, cl⟩ := HC.out V0 (Below.refl _ _)
    by_cases hq : v.n = 0
    · have hb1 : (v.n == 0) = true := by rw [beq_iff_eq]; omega
      go_wp2_with (first | (go_at_call 78; refine HW.out.mono ?_; rintro e0 w0 ⟨rfl, rfl⟩))
      go_quiet (fail)
      go_wp2
      go_ret2
      exact ⟨_, rfl, .slice none 0 0, (by show Value.tuple #[.slice none 0 0, .bool true] = _; simp [hq]), Rb.nil _, HB0.out.trans ((bel_drewN _ _).mono HB0.out.size), At.nil _ _ _⟩
    · have hb1 : (v.n == 0) = false := by rw [beq_eq_false_iff_ne]; omega
      go_wp2_with (first | (go_at_call 78; refine HW.out.mono ?_; rintro e0 w0 ⟨rfl, rfl⟩))
      go_quiet (fail)
      go_wp2
      go_ret2
      exact ⟨_, rfl, .slice none 0 0, (by show Value.tuple #[.slice none 0 0, .bool false] = _; simp [hq]), Rb.nil _, HB0.out.trans ((bel_drewN _ _).mono HB0.out.size), At.nil _ _ _⟩
set_option maxRecDepth 100000 in
set_option maxHeartbeats 4000000 in
theorem fixed_list (c : Nat) (v : V) (w : World) (hc : c = 69) :
    Calls Tryz.prog 50 #[.int .i64 (c : Int), .agg #[.int .i64 v.k, .int .u64 v.n, .string v.s, .slice v.a v.l.length v.c, .int .i64 v.e]] w fun e w' => ∃ u, e = .returned u ∧ Two w w' [] (decide (v.l.length = 0)) u := by
  obtain ⟨V0, hV0⟩ : ∃ V0, w.alloc (.cells #[.int .i64 v.k, .int .u64 v.n, .string v.s, .slice v.a v.l.length v.c, .int .i64 v.e] 25) = V0 := ⟨_, rfl⟩
  have b0 : V0.heap[w.heap.size]? = some (.cells #[.int .i64 v.k, .int .u64 v.n, .string v.s, .slice v.a v.l.length v.c, .int .i64 v.e] 25 (0, 0)) := hV0 ▸ heap_lst w _
  have HB0 : Hid (Below w.heap.size w V0) := hV0 ▸ bel1 (Below.refl _ _) (Nat.le_refl _) _
  have HC : Hid (∀ W, Below V0.heap.size V0 W → W.cell? ⟨w.heap.size, 0, none⟩ = some (.int .i64 v.k) ∧ W.cell? ⟨w.heap.size, 1, none⟩ = some (.int .u64 v.n) ∧ W.cell? ⟨w.heap.size, 2, none⟩ = some (.string v.s) ∧ W.cell? ⟨w.heap.size, 3, none⟩ = some (.slice v.a v.l.length v.c) ∧ W.cell? ⟨w.heap.size, 4, none⟩ = some (.int .i64 v.e) ∧ w.heap.size < W.heap.size) := fun W hb => by
    have hl := (Array.getElem?_eq_some_iff.1 b0).1
    have e := (hb.block _ hl).trans b0
    exact ⟨by simp [World.cell?, e], by simp [World.cell?, e], by simp [World.cell?, e], by simp [World.cell?, e], by simp [World.cell?, e], Nat.lt_of_lt_of_le hl hb.size⟩
  have HV0 := hide hV0
  clear hV0 b0
  have HW := hide (width_any c (by rcases hc with rfl <;> decide) V0)
  rcases hc with rfl
  all_goals
    go_enter Tryz.func50, Tryz.ntmps50
    go_wp2_with (first | (rw [HV0.out]; refine Shut.out ?_))
    unfold Shut
    obtain ⟨c0, c1, c2, c3, c4, cl⟩ := HC.out V0 (Below.refl _ _)
    by_cases hq : v.l.length = 0
    · have hb1 : ((v.l.length : Int) == 0) = true := by rw [beq_iff_eq]; omega
      go_wp2_with (first | (go_at_call 78; refine HW.out.mono ?_; rintro e0 w0 ⟨rfl, rfl⟩))
      go_quiet (fail)
      go_wp2
      go_ret2
      exact ⟨_, rfl, .slice none 0 0, (by show Value.tuple #[.slice none 0 0, .bool true] = _; simp [hq]), Rb.nil _, HB0.out.trans ((bel_drewN _ _).mono HB0.out.size), At.nil _ _ _⟩
    · have hb1 : ((v.l.length : Int) == 0) = false := by rw [beq_eq_false_iff_ne]; omega
      go_wp2_with (first | (go_at_call 78; refine HW.out.mono ?_; rintro e0 w0 ⟨rfl, rfl⟩))
      go_quiet (fail)
      go_wp2
      go_ret2
      exact ⟨_, rfl, .slice none 0 0, (by show Value.tuple #[.slice none 0 0, .bool false] = _; simp [hq]), Rb.nil _, HB0.out.trans ((bel_drewN _ _).mono HB0.out.size), At.nil _ _ _⟩
set_option maxRecDepth 100000 in
set_option maxHeartbeats 4000000 in
theorem fixed_text (c : Nat) (v : V) (w : World) (hc : c = 148 ∨ c = 152) :
    Calls Tryz.prog 50 #[.int .i64 (c : Int), .agg #[.int .i64 v.k, .int .u64 v.n, .string v.s, .slice v.a v.l.length v.c, .int .i64 v.e]] w fun e w' => ∃ u, e = .returned u ∧ Two w w' (txt v.s) true u := by
  obtain ⟨V0, hV0⟩ : ∃ V0, w.alloc (.cells #[.int .i64 v.k, .int .u64 v.n, .string v.s, .slice v.a v.l.length v.c, .int .i64 v.e] 25) = V0 := ⟨_, rfl⟩
  have b0 : V0.heap[w.heap.size]? = some (.cells #[.int .i64 v.k, .int .u64 v.n, .string v.s, .slice v.a v.l.length v.c, .int .i64 v.e] 25 (0, 0)) := hV0 ▸ heap_lst w _
  have HB0 : Hid (Below w.heap.size w V0) := hV0 ▸ bel1 (Below.refl _ _) (Nat.le_refl _) _
  have HC : Hid (∀ W, Below V0.heap.size V0 W → W.cell? ⟨w.heap.size, 0, none⟩ = some (.int .i64 v.k) ∧ W.cell? ⟨w.heap.size, 1, none⟩ = some (.int .u64 v.n) ∧ W.cell? ⟨w.heap.size, 2, none⟩ = some (.string v.s) ∧ W.cell? ⟨w.heap.size, 3, none⟩ = some (.slice v.a v.l.length v.c) ∧ W.cell? ⟨w.heap.size, 4, none⟩ = some (.int .i64 v.e) ∧ w.heap.size < W.heap.size) := fun W hb => by
    have hl := (Array.getElem?_eq_some_iff.1 b0).1
    have e := (hb.block _ hl).trans b0
    exact ⟨by simp [World.cell?, e], by simp [World.cell?, e], by simp [World.cell?, e], by simp [World.cell?, e], by simp [World.cell?, e], Nat.lt_of_lt_of_le hl hb.size⟩
  have HV0 := hide hV0
  clear hV0 b0
  have HW := hide (width_any c (by rcases hc with rfl | rfl <;> decide) V0)
  rcases hc with rfl | rfl
  all_goals
    go_enter Tryz.func50, Tryz.ntmps50
    go_wp2_with (first | (rw [HV0.out]; refine Shut.out ?_))
    unfold Shut
    obtain ⟨c0, c1, c2, c3, c4, cl⟩ := HC.out V0 (Below.refl _ _)
    obtain ⟨cap, W', hcv, hrb, hbb⟩ := bytes_rb V0 v.s
    have HRb := hide hrb
    have HBb := hide hbb
    clear hrb hbb
    go_wp2_with (first | (go_at_call 78; refine HW.out.mono ?_; rintro e0 w0 ⟨rfl, rfl⟩))
    go_ret2
    exact ⟨_, rfl, .slice (some ⟨V0.heap.size, 0, none⟩) v.s.size cap, rfl, HRb.out, HB0.out.trans (HBb.out.mono HB0.out.size), fun g hg => by cases hg; exact HB0.out.size⟩
end E
namespace E
open Go.RowKit Go.Deep
def fixC : List Nat := [64, 86, 80, 82, 83, 81, 84, 85, 96, 97, 112, 113, 114, 115, 116, 128, 129, 130, 131, 132, 65, 66, 67, 68, 69, 148, 152]
theorem fix_ne {c : Nat} (h : c ∈ fixC) : ((c : Int) == 160) = false ∧ ((c : Int) == 161) = false ∧ ((c : Int) == 163) = false ∧ ((c : Int) == 176) = false ∧ ((c : Int) == 177) = false ∧ ((c : Int) == 179) = false ∧ ((c : Int) == 192) = false ∧ ((c : Int) == 193) = false ∧ ((c : Int) == 208) = false ∧ ((c : Int) == 209) = false ∧ ((c : Int) == 224) = false ∧ ((c : Int) == 240) = false ∧ ((c : Int) == 0) = false := by
  simp only [fixC, List.mem_cons, List.not_mem_nil, or_false] at h
  rcases h with rfl | rfl | rfl | rfl | rfl | rfl | rfl | rfl | rfl | rfl | rfl | rfl | rfl | rfl | rfl | rfl | rfl | rfl | rfl | rfl | rfl | rfl | rfl | rfl | rfl | rfl | rfl <;> decide
set_option maxRecDepth 100000 in
set_option maxHeartbeats 4000000 in
theorem data_fixed (c : Nat) (v : V) (inn : List Nat) (ia : Option Addr) (ic : Nat) (w : World) (hc : c ∈ fixC) (l : List Nat) (ok : Bool) (hF : ∀ w1, Calls Tryz.prog 50 #[.int .i64 (c : Int), .agg #[.int .i64 v.k, .int .u64 v.n, .string v.s, .slice v.a v.l.length v.c, .int .i64 v.e]] w1 fun e w' => ∃ u, e = .returned u ∧ Two w1 w' l ok u) :
    Calls Tryz.prog 34 #[.int .i64 (c : Int), .agg #[.int .i64 v.k, .int .u64 v.n, .string v.s, .slice v.a v.l.length v.c, .int .i64 v.e], .slice ia inn.length ic] w fun e w' => ∃ u, e = .returned u ∧ Two w w' l ok u := by
  obtain ⟨n160, n161, n163, n176, n177, n179, n192, n193, n208, n209, n224, n240, n0⟩ := fix_ne hc
  have HF := hide hF
  clear hF
  obtain ⟨V0, hV0⟩ : ∃ V0, w.alloc (.cells #[.int .i64 v.k, .int .u64 v.n, .string v.s, .slice v.a v.l.length v.c, .int .i64 v.e] 25) = V0 := ⟨_, rfl⟩
  have b0 : V0.heap[w.heap.size]? = some (.cells #[.int .i64 v.k, .int .u64 v.n, .string v.s, .slice v.a v.l.length v.c, .int .i64 v.e] 25 (0, 0)) := hV0 ▸ heap_lst w _
  have HB0 : Hid (Below w.heap.size w V0) := hV0 ▸ bel1 (Below.refl _ _) (Nat.le_refl _) _
  have HC : Hid (∀ W, Below V0.heap.size V0 W → W.cell? ⟨w.heap.size, 0, none⟩ = some (.int .i64 v.k) ∧ W.cell? ⟨w.heap.size, 1, none⟩ = some (.int .u64 v.n) ∧ W.cell? ⟨w.heap.size, 2, none⟩ = some (.string v.s) ∧ W.cell? ⟨w.heap.size, 3, none⟩ = some (.slice v.a v.l.length v.c) ∧ W.cell? ⟨w.heap.size, 4, none⟩ = some (.int .i64 v.e) ∧ w.heap.size < W.heap.size) := fun W hb => by
    have hl := (Array.getElem?_eq_some_iff.1 b0).1
    have e := (hb.block _ hl).trans b0
    exact ⟨by simp [World.cell?, e], by simp [World.cell?, e], by simp [World.cell?, e], by simp [World.cell?, e], by simp [World.cell?, e], Nat.lt_of_lt_of_le hl hb.size⟩
  have HV0 := hide hV0
  clear hV0 b0
  go_enter Tryz.func34, Tryz.ntmps34
  go_wp2_with (first | (rw [HV0.out]; refine Shut.out ?_))
  unfold Shut
  obtain ⟨c0, c1, c2, c3, c4, cl⟩ := HC.out V0 (Below.refl _ _)
  go_wp2_with (first | (go_at_call 50; refine (HF.out V0).mono ?_; rintro e1 w1 ⟨u1, rfl, u, rfl, hr1, hb1, ha1⟩; refine Shut.out ?_))
  unfold Shut
  have HR1 := hide hr1
  have HB1 := hide hb1
  clear hr1 hb1
  go_wp2
  go_ret2
  exact ⟨_, rfl, u, rfl, HR1.out, HB0.out.trans (HB1.out.mono HB0.out.size), ha1.mono HB0.out.size⟩
set_option maxRecDepth 100000 in
set_option maxHeartbeats 4000000 in
theorem data_none (B : Nat) (v : V) (inn : List Nat) (ia : Option Addr) (ic : Nat) (w : World) (hr : Rb w (.slice ia inn.length ic) inn) (hat : At B (.slice ia inn.length ic)) (c : Nat) (hc : c = 0) :
    Calls Tryz.prog 34 #[.int .i64 (c : Int), .agg #[.int .i64 v.k, .int .u64 v.n, .string v.s, .slice v.a v.l.length v.c, .int .i64 v.e], .slice ia inn.length ic] w fun e w' => ∃ u, e = .returned u ∧ TwoB B w w' inn true u := by
  subst hc
  obtain ⟨V0, hV0⟩ : ∃ V0, w.alloc (.cells #[.int .i64 v.k, .int .u64 v.n, .string v.s, .slice v.a v.l.length v.c, .int .i64 v.e] 25) = V0 := ⟨_, rfl⟩
  have b0 : V0.heap[w.heap.size]? = some (.cells #[.int .i64 v.k, .int .u64 v.n, .string v.s, .slice v.a v.l.length v.c, .int .i64 v.e] 25 (0, 0)) := hV0 ▸ heap_lst w _
  have HB0 : Hid (Below w.heap.size w V0) := hV0 ▸ bel1 (Below.refl _ _) (Nat.le_refl _) _
  have HC : Hid (∀ W, Below V0.heap.size V0 W → W.cell? ⟨w.heap.size, 0, none⟩ = some (.int .i64 v.k) ∧ W.cell? ⟨w.heap.size, 1, none⟩ = some (.int .u64 v.n) ∧ W.cell? ⟨w.heap.size, 2, none⟩ = some (.string v.s) ∧ W.cell? ⟨w.heap.size, 3, none⟩ = some (.slice v.a v.l.length v.c) ∧ W.cell? ⟨w.heap.size, 4, none⟩ = some (.int .i64 v.e) ∧ w.heap.size < W.heap.size) := fun W hb => by
    have hl := (Array.getElem?_eq_some_iff.1 b0).1
    have e := (hb.block _ hl).trans b0
    exact ⟨by simp [World.cell?, e], by simp [World.cell?, e], by simp [World.cell?, e], by simp [World.cell?, e], by simp [World.cell?, e], Nat.lt_of_lt_of_le hl hb.size⟩
  have HV0 := hide hV0
  clear hV0 b0
  have HR := hide (hr.below HB0.out)
  clear hr
  go_enter Tryz.func34, Tryz.ntmps34
  go_wp2_with (first | (rw [HV0.out]; refine Shut.out ?_))
  unfold Shut
  obtain ⟨c0, c1, c2, c3, c4, cl⟩ := HC.out V0 (Below.refl _ _)
  go_wp2
  go_ret2
  exact ⟨_, rfl, _, rfl, HR.out, HB0.out, hat⟩
set_option maxRecDepth 100000 in
set_option maxHeartbeats 4000000 in
theorem data_span (c wd : Nat) (v : V) (inn : List Nat) (ia : Option Addr) (ic : Nat) (w : World) (hr : Rb w (.slice ia inn.length ic) inn) (hc : c = 192 ∨ c = 193 ∨ c = 208 ∨ c = 209 ∨ c = 224 ∨ c = 240) (hwd : wideC c = wd) (hl : v.l.length ≤ 1099511627776) (hi : inn.length ≤ 1099511627776) :
    Calls Tryz.prog 34 #[.int .i64 (c : Int), .agg #[.int .i64 v.k, .int .u64 v.n, .string v.s, .slice v.a v.l.length v.c, .int .i64 v.e], .slice ia inn.length ic] w fun e w' => ∃ u, e = .returned u ∧ Two w w' (spanB wd v.l.length inn) (spanOk wd v.l.length inn) u := by
  obtain ⟨V0, hV0⟩ : ∃ V0, w.alloc (.cells #[.int .i64 v.k, .int .u64 v.n, .string v.s, .slice v.a v.l.length v.c, .int .i64 v.e] 25) = V0 := ⟨_, rfl⟩
  have b0 : V0.heap[w.heap.size]? = some (.cells #[.int .i64 v.k, .int .u64 v.n, .string v.s, .slice v.a v.l.length v.c, .int .i64 v.e] 25 (0, 0)) := hV0 ▸ heap_lst w _
  have HB0 : Hid (Below w.heap.size w V0) := hV0 ▸ bel1 (Below.refl _ _) (Nat.le_refl _) _
  have HC : Hid (∀ W, Below V0.heap.size V0 W → W.cell? ⟨w.heap.size, 0, none⟩ = some (.int .i64 v.k) ∧ W.cell? ⟨w.heap.size, 1, none⟩ = some (.int .u64 v.n) ∧ W.cell? ⟨w.heap.size, 2, none⟩ = some (.string v.s) ∧ W.cell? ⟨w.heap.size, 3, none⟩ = some (.slice v.a v.l.length v.c) ∧ W.cell? ⟨w.heap.size, 4, none⟩ = some (.int .i64 v.e) ∧ w.heap.size < W.heap.size) := fun W hb => by
    have hl := (Array.getElem?_eq_some_iff.1 b0).1
    have e := (hb.block _ hl).trans b0
    exact ⟨by simp [World.cell?, e], by simp [World.cell?, e], by simp [World.cell?, e], by simp [World.cell?, e], by simp [World.cell?, e], Nat.lt_of_lt_of_le hl hb.size⟩
  have HV0 := hide hV0
  clear hV0 b0
  have HS := hide (spanned_any c wd v.l.length inn (.slice ia inn.length ic) V0 (by rcases hc with rfl | rfl | rfl | rfl | rfl | rfl <;> decide) hwd (by rcases hc with rfl | rfl | rfl | rfl | rfl | rfl <;> (rw [← hwd]; decide)) hl (hr.below HB0.out) hi)
  clear hr
  rcases hc with rfl | rfl | rfl | rfl | rfl | rfl
  all_goals
    go_enter Tryz.func34, Tryz.ntmps34
    go_wp2_with (first | (rw [HV0.out]; refine Shut.out ?_))
    unfold Shut
    obtain ⟨c0, c1, c2, c3, c4, cl⟩ := HC.out V0 (Below.refl _ _)
    go_wp2_with (first | (go_at_call 49; refine HS.out.mono ?_; rintro e1 w1 ⟨u1, rfl, u, rfl, hr1, hb1, ha1⟩; refine Shut.out ?_))
    unfold Shut
    have HR1 := hide hr1
    have HB1 := hide hb1
    clear hr1 hb1
    go_wp2
    go_ret2
    exact ⟨_, rfl, u, rfl, HR1.out, HB0.out.trans (HB1.out.mono HB0.out.size), ha1.mono HB0.out.size⟩
set_option maxRecDepth 100000 in
set_option maxHeartbeats 4000000 in
theorem data_text1 (c : Nat) (v : V) (inn : List Nat) (ia : Option Addr) (ic : Nat) (w : World) (hc : c = 160 ∨ c = 161 ∨ c = 163) (hs : v.s.size ≤ 1099511627776) :
    Calls Tryz.prog 34 #[.int .i64 (c : Int), .agg #[.int .i64 v.k, .int .u64 v.n, .string v.s, .slice v.a v.l.length v.c, .int .i64 v.e], .slice ia inn.length ic] w fun e w' => ∃ u, e = .returned u ∧ Two w w' (digs v.s.size 1 ++ txt v.s) (decide (1 = 4) || decide (v.s.size ≤ 255)) u := by
  obtain ⟨V0, hV0⟩ : ∃ V0, w.alloc (.cells #[.int .i64 v.k, .int .u64 v.n, .string v.s, .slice v.a v.l.length v.c, .int .i64 v.e] 25) = V0 := ⟨_, rfl⟩
  have b0 : V0.heap[w.heap.size]? = some (.cells #[.int .i64 v.k, .int .u64 v.n, .string v.s, .slice v.a v.l.length v.c, .int .i64 v.e] 25 (0, 0)) := hV0 ▸ heap_lst w _
  have HB0 : Hid (Below w.heap.size w V0) := hV0 ▸ bel1 (Below.refl _ _) (Nat.le_refl _) _
  have HC : Hid (∀ W, Below V0.heap.size V0 W → W.cell? ⟨w.heap.size, 0, none⟩ = some (.int .i64 v.k) ∧ W.cell? ⟨w.heap.size, 1, none⟩ = some (.int .u64 v.n) ∧ W.cell? ⟨w.heap.size, 2, none⟩ = some (.string v.s) ∧ W.cell? ⟨w.heap.size, 3, none⟩ = some (.slice v.a v.l.length v.c) ∧ W.cell? ⟨w.heap.size, 4, none⟩ = some (.int .i64 v.e) ∧ w.heap.size < W.heap.size) := fun W hb => by
    have hl := (Array.getElem?_eq_some_iff.1 b0).1
    have e := (hb.block _ hl).trans b0
    exact ⟨by simp [World.cell?, e], by simp [World.cell?, e], by simp [World.cell?, e], by simp [World.cell?, e], by simp [World.cell?, e], Nat.lt_of_lt_of_le hl hb.size⟩
  have HV0 := hide hV0
  clear hV0 b0
  have HW := hide (wide_any c (by rcases hc with rfl | rfl | rfl <;> decide) V0)
  have HWo := hide (word_any v.s.size 1 V0 (by omega) (by omega))
  have HD := hide (digs_length v.s.size 1)
  have hcv : IntKind.u64.wrap (v.s.size : Int) = (v.s.size : Int) := by rw [IntKind.wrap_u64]; omega
  obtain ⟨ok, hok⟩ : ∃ ok, decide (v.s.size ≤ 255) = ok := ⟨_, rfl⟩
  have hoi : decide ((v.s.size : Int) ≤ 255) = ok := by rw [← hok]; exact decide_eq_decide.2 (by omega)
  rw [hok]
  rcases hc with rfl | rfl | rfl
  all_goals
    go_enter Tryz.func34, Tryz.ntmps34
    go_wp2_with (first | (rw [HV0.out]; refine Shut.out ?_))
    unfold Shut
    obtain ⟨c0, c1, c2, c3, c4, cl⟩ := HC.out V0 (Below.refl _ _)
    go_wp2_with (first | (go_at_call 47; refine HW.out.mono ?_; rintro e0 w0 ⟨rfl, rfl⟩) | (go_at_call 48; refine HWo.out.mono ?_; rintro e1 w1 ⟨v1, rfl, ho1, hb1⟩; refine Shut.out ?_))
    unfold Shut
    have HO1 : Hid (Ob V0.heap.size w1.drew v1 (digs v.s.size 1)) := ho1.out.below (bel_drewN w1 1)
    have HB1 := hide hb1
    have HBd : Hid (Below V0.heap.size V0 w1.drew) := hb1.trans ((bel_drewN w1 1).mono hb1.size)
    clear c0 c1 c2 c3 c4 cl ho1 hb1
    obtain ⟨c0, c1, c2, c3, c4, cl⟩ := HC.out w1 HB1.out
    have HS0 : Hid (w1.drew.cell? ⟨w.heap.size, 2, none⟩ = some (.string v.s)) := c2
    go_wp2
    refine wp_region_held_drew (S := fun W => W.cell? ⟨w.heap.size, 2, none⟩ = some (.string v.s)) (by kernel_rfl) HS0.out (fun hHeld => ?_)
    refine take_do (i := 0) (d := 26) (v := ?_) rfl rfl (by kernel_rfl) (by kernel_rfl) (by kernel_rfl) (fun _ _ _ h => h) rfl ?_ (by assumption) ?_
    rotate_left
    · intro W hSw
      try dsimp only at hSw
      go_simp
      try with_reducible rfl
    try simp only [List.setIfInBounds_toArray, List.set_cons_zero, List.set_cons_succ]
    refine take_do (i := 1) (d := 27) (v := ?_) rfl rfl (by kernel_rfl) (by kernel_rfl) (by kernel_rfl) (fun _ _ _ h => h) rfl ?_ (by assumption) ?_
    rotate_left
    · intro W hSw
      try dsimp only at hSw
      go_simp
      try with_reducible rfl
    try simp only [List.setIfInBounds_toArray, List.set_cons_zero, List.set_cons_succ]
    refine take_do (i := 2) (d := 28) (v := ?_) rfl rfl (by kernel_rfl) (by kernel_rfl) (by kernel_rfl) (fun _ _ _ h => h) rfl ?_ (by assumption) ?_
    rotate_left
    · intro W hSw
      try dsimp only at hSw
      go_simp
      try with_reducible rfl
    try simp only [List.setIfInBounds_toArray, List.set_cons_zero, List.set_cons_succ]
    refine take_do (i := 4) (d := 30) (v := ?_) rfl rfl (by kernel_rfl) (by kernel_rfl) (by kernel_rfl) (fun _ _ _ h => h) rfl ?_ (by assumption) ?_
    rotate_left
    · intro W hSw
      try dsimp only at hSw
      go_simp
      try with_reducible rfl
    try simp only [List.setIfInBounds_toArray, List.set_cons_zero, List.set_cons_succ]
    refine take_do (i := 5) (d := 31) (v := ?_) rfl rfl (by kernel_rfl) (by kernel_rfl) (by kernel_rfl) (fun _ _ _ h => h) rfl ?_ (by assumption) ?_
    rotate_left
    · intro W hSw
      try dsimp only at hSw
      go_simp
      try with_reducible rfl
    try simp only [List.setIfInBounds_toArray, List.set_cons_zero, List.set_cons_succ]
    refine wpAnyH_ready (rs := [3]) (by kernel_rfl) (by simp) ?_
    refine AllReadyH.cons rfl (fun K hK => ?_) AllReadyH.nil
    rw [if_pos (by kernel_rfl)]
    refine wp_app_text (.tmp 26) (.tmp 28) rfl V0.heap.size v1 (digs v.s.size 1) rfl HO1.out v.s rfl (by have := HD.out; omega) (by have := HBd.out.size; exact this) ?_
    intro v4 w4 r1 r2
    have HB4 : Hid (Below V0.heap.size V0 w4) := HBd.out.grown r2 HBd.out.size (fun g hg => (HO1.out.lt g hg).1)
    have HR4 := hide r1.rb
    have HA4 := hide r1.at
    refine hK.out _ _ (HC.out w4 HB4.out).2.2.1 (fun hHeld => ?_)
    clear hK K r1 r2
    try simp only [Act.put, List.setIfInBounds_toArray, List.set_cons_zero, List.set_cons_succ]
    refine take_do (i := 6) (d := 32) (v := ?_) rfl rfl (by kernel_rfl) (by kernel_rfl) (by kernel_rfl) (fun _ _ _ h => h) rfl ?_ (by assumption) ?_
    rotate_left
    · intro W hSw
      try dsimp only at hSw
      go_simp
      try with_reducible rfl
    try simp only [List.setIfInBounds_toArray, List.set_cons_zero, List.set_cons_succ]
    refine take_wanted (i := 7) (d := 33) (v := ?_) rfl rfl (by kernel_rfl) (by kernel_rfl) (by kernel_rfl) (fun _ _ _ h => h) (by first | rfl | kernel_rfl) ?_ (by assumption) ?_
    rotate_left
    · intro W hSw
      try dsimp only at hSw
      go_simp
      try with_reducible rfl
    try simp only [List.setIfInBounds_toArray, List.set_cons_zero, List.set_cons_succ]
    refine take_wanted (i := 8) (d := 34) (v := ?_) rfl rfl (by kernel_rfl) (by kernel_rfl) (by kernel_rfl) (fun _ _ _ h => h) (by first | rfl | kernel_rfl) ?_ (by assumption) ?_
    rotate_left
    · intro W hSw
      try dsimp only at hSw
      go_simp
      try with_reducible rfl
    try simp only [List.setIfInBounds_toArray, List.set_cons_zero, List.set_cons_succ]
    refine take_wanted (i := 9) (d := 35) (v := ?_) rfl rfl (by kernel_rfl) (by kernel_rfl) (by kernel_rfl) (fun _ _ _ h => h) (by first | rfl | kernel_rfl) ?_ (by assumption) ?_
    rotate_left
    · intro W hSw
      try dsimp only at hSw
      go_simp
      try with_reducible rfl
    try simp only [List.setIfInBounds_toArray, List.set_cons_zero, List.set_cons_succ]
    refine take_wanted (i := 10) (d := 36) (v := ?_) rfl rfl (by kernel_rfl) (by kernel_rfl) (by kernel_rfl) (fun _ _ _ h => h) (by first | rfl | kernel_rfl) ?_ (by assumption) ?_
    rotate_left
    · intro W hSw
      try dsimp only at hSw
      go_simp
      try with_reducible rfl
    try simp only [List.setIfInBounds_toArray, List.set_cons_zero, List.set_cons_succ]
    refine take_do (i := 11) (d := 37) (v := ?_) rfl rfl (by kernel_rfl) (by kernel_rfl) (by kernel_rfl) (fun _ _ _ h => h) rfl ?_ (by assumption) ?_
    rotate_left
    · intro W hSw
      try dsimp only at hSw
      go_simp
      try with_reducible rfl
    try simp only [List.setIfInBounds_toArray, List.set_cons_zero, List.set_cons_succ]
    refine take_do (i := 12) (d := 6) (v := ?_) rfl rfl (by kernel_rfl) (by kernel_rfl) (by kernel_rfl) (fun _ _ _ h => h) rfl ?_ (by assumption) ?_
    rotate_left
    · intro W hSw
      try dsimp only at hSw
      go_simp
      try with_reducible rfl
    try simp only [List.setIfInBounds_toArray, List.set_cons_zero, List.set_cons_succ]
    refine take_do (i := 13) (d := 7) (v := ?_) rfl rfl (by kernel_rfl) (by kernel_rfl) (by kernel_rfl) (fun _ _ _ h => h) rfl ?_ (by assumption) ?_
    rotate_left
    · intro W hSw
      try dsimp only at hSw
      go_simp
      try with_reducible rfl
    try simp only [List.setIfInBounds_toArray, List.set_cons_zero, List.set_cons_succ]
    refine wpAnyH_done (by kernel_rfl) ?_ _
    go_wp2
    go_ret2
    exact ⟨_, rfl, v4, (by show Value.tuple #[v4, .bool ok] = _; simp), HR4.out, HB0.out.trans (HB4.out.mono HB0.out.size), HA4.out.mono HB0.out.size⟩
set_option maxRecDepth 100000 in
set_option maxHeartbeats 4000000 in
theorem data_text4 (c : Nat) (v : V) (inn : List Nat) (ia : Option Addr) (ic : Nat) (w : World) (hc : c = 176 ∨ c = 177 ∨ c = 179) (hs : v.s.size ≤ 1099511627776) :
    Calls Tryz.prog 34 #[.int .i64 (c : Int), .agg #[.int .i64 v.k, .int .u64 v.n, .string v.s, .slice v.a v.l.length v.c, .int .i64 v.e], .slice ia inn.length ic] w fun e w' => ∃ u, e = .returned u ∧ Two w w' (digs v.s.size 4 ++ txt v.s) (decide (4 = 4) || decide (v.s.size ≤ 255)) u := by
  obtain ⟨V0, hV0⟩ : ∃ V0, w.alloc (.cells #[.int .i64 v.k, .int .u64 v.n, .string v.s, .slice v.a v.l.length v.c, .int .i64 v.e] 25) = V0 := ⟨_, rfl⟩
  have b0 : V0.heap[w.heap.size]? = some (.cells #[.int .i64 v.k, .int .u64 v.n, .string v.s, .slice v.a v.l.length v.c, .int .i64 v.e] 25 (0, 0)) := hV0 ▸ heap_lst w _
  have HB0 : Hid (Below w.heap.size w V0) := hV0 ▸ bel1 (Below.refl _ _) (Nat.le_refl _) _
  have HC : Hid (∀ W, Below V0.heap.size V0 W → W.cell? ⟨w.heap.size, 0, none⟩ = some (.int .i64 v.k) ∧ W.cell? ⟨w.heap.size, 1, none⟩ = some (.int .u64 v.n) ∧ W.cell? ⟨w.heap.size, 2, none⟩ = some (.string v.s) ∧ W.cell? ⟨w.heap.size, 3, none⟩ = some (.slice v.a v.l.length v.c) ∧ W.cell? ⟨w.heap.size, 4, none⟩ = some (.int .i64 v.e) ∧ w.heap.size < W.heap.size) := fun W hb => by
    have hl := (Array.getElem?_eq_some_iff.1 b0).1
    have e := (hb.block _ hl).trans b0
    exact ⟨by simp [World.cell?, e], by simp [World.cell?, e], by simp [World.cell?, e], by simp [World.cell?, e], by simp [World.cell?, e], Nat.lt_of_lt_of_le hl hb.size⟩
  have HV0 := hide hV0
  clear hV0 b0
  have HW := hide (wide_any c (by rcases hc with rfl | rfl | rfl <;> decide) V0)
  have HWo := hide (word_any v.s.size 4 V0 (by omega) (by omega))
  have HD := hide (digs_length v.s.size 4)
  have hcv : IntKind.u64.wrap (v.s.size : Int) = (v.s.size : Int) := by rw [IntKind.wrap_u64]; omega
  obtain ⟨ok, hok⟩ : ∃ ok, decide (v.s.size ≤ 255) = ok := ⟨_, rfl⟩
  have hoi : decide ((v.s.size : Int) ≤ 255) = ok := by rw [← hok]; exact decide_eq_decide.2 (by omega)
  rw [hok]
  rcases hc with rfl | rfl | rfl
  all_goals
    go_enter Tryz.func34, Tryz.ntmps34
    go_wp2_with (first | (rw [HV0.out]; refine Shut.out ?_))
    unfold Shut
    obtain ⟨c0, c1, c2, c3, c4, cl⟩ := HC.out V0 (Below.refl _ _)
    go_wp2_with (first | (go_at_call 47; refine HW.out.mono ?_; rintro e0 w0 ⟨rfl, rfl⟩) | (go_at_call 48; refine HWo.out.mono ?_; rintro e1 w1 ⟨v1, rfl, ho1, hb1⟩; refine Shut.out ?_))
    unfold Shut
    have HO1 : Hid (Ob V0.heap.size w1.drew v1 (digs v.s.size 4)) := ho1.out.below (bel_drewN w1 1)
    have HB1 := hide hb1
    have HBd : Hid (Below V0.heap.size V0 w1.drew) := hb1.trans ((bel_drewN w1 1).mono hb1.size)
    clear c0 c1 c2 c3 c4 cl ho1 hb1
    obtain ⟨c0, c1, c2, c3, c4, cl⟩ := HC.out w1 HB1.out
    have HS0 : Hid (w1.drew.cell? ⟨w.heap.size, 2, none⟩ = some (.string v.s)) := c2
    go_wp2
    refine wp_region_held_drew (S := fun W => W.cell? ⟨w.heap.size, 2, none⟩ = some (.string v.s)) (by kernel_rfl) HS0.out (fun hHeld => ?_)
    refine take_do (i := 0) (d := 26) (v := ?_) rfl rfl (by kernel_rfl) (by kernel_rfl) (by kernel_rfl) (fun _ _ _ h => h) rfl ?_ (by assumption) ?_
    rotate_left
    · intro W hSw
      try dsimp only at hSw
      go_simp
      try with_reducible rfl
    try simp only [List.setIfInBounds_toArray, List.set_cons_zero, List.set_cons_succ]
    refine take_do (i := 1) (d := 27) (v := ?_) rfl rfl (by kernel_rfl) (by kernel_rfl) (by kernel_rfl) (fun _ _ _ h => h) rfl ?_ (by assumption) ?_
    rotate_left
    · intro W hSw
      try dsimp only at hSw
      go_simp
      try with_reducible rfl
    try simp only [List.setIfInBounds_toArray, List.set_cons_zero, List.set_cons_succ]
    refine take_do (i := 2) (d := 28) (v := ?_) rfl rfl (by kernel_rfl) (by kernel_rfl) (by kernel_rfl) (fun _ _ _ h => h) rfl ?_ (by assumption) ?_
    rotate_left
    · intro W hSw
      try dsimp only at hSw
      go_simp
      try with_reducible rfl
    try simp only [List.setIfInBounds_toArray, List.set_cons_zero, List.set_cons_succ]
    refine take_do (i := 4) (d := 30) (v := ?_) rfl rfl (by kernel_rfl) (by kernel_rfl) (by kernel_rfl) (fun _ _ _ h => h) rfl ?_ (by assumption) ?_
    rotate_left
    · intro W hSw
      try dsimp only at hSw
      go_simp
      try with_reducible rfl
    try simp only [List.setIfInBounds_toArray, List.set_cons_zero, List.set_cons_succ]
    refine take_do (i := 5) (d := 31) (v := ?_) rfl rfl (by kernel_rfl) (by kernel_rfl) (by kernel_rfl) (fun _ _ _ h => h) rfl ?_ (by assumption) ?_
    rotate_left
    · intro W hSw
      try dsimp only at hSw
      go_simp
      try with_reducible rfl
    try simp only [List.setIfInBounds_toArray, List.set_cons_zero, List.set_cons_succ]
    refine wpAnyH_ready (rs := [3]) (by kernel_rfl) (by simp) ?_
    refine AllReadyH.cons rfl (fun K hK => ?_) AllReadyH.nil
    rw [if_pos (by kernel_rfl)]
    refine wp_app_text (.tmp 26) (.tmp 28) rfl V0.heap.size v1 (digs v.s.size 4) rfl HO1.out v.s rfl (by have := HD.out; omega) (by have := HBd.out.size; exact this) ?_
    intro v4 w4 r1 r2
    have HB4 : Hid (Below V0.heap.size V0 w4) := HBd.out.grown r2 HBd.out.size (fun g hg => (HO1.out.lt g hg).1)
    have HR4 := hide r1.rb
    have HA4 := hide r1.at
    refine hK.out _ _ (HC.out w4 HB4.out).2.2.1 (fun hHeld => ?_)
    clear hK K r1 r2
    try simp only [Act.put, List.setIfInBounds_toArray, List.set_cons_zero, List.set_cons_succ]
    refine take_do (i := 6) (d := 32) (v := ?_) rfl rfl (by kernel_rfl) (by kernel_rfl) (by kernel_rfl) (fun _ _ _ h => h) rfl ?_ (by assumption) ?_
    rotate_left
    · intro W hSw
      try dsimp only at hSw
      go_simp
      try with_reducible rfl
    try simp only [List.setIfInBounds_toArray, List.set_cons_zero, List.set_cons_succ]
    refine take_skip (i := 7) (d := 33) (j := 6) (b := false) rfl rfl (by kernel_rfl) (by kernel_rfl) (by kernel_rfl) (fun _ _ _ h => h) rfl rfl (by assumption) ?_
    try simp only [List.setIfInBounds_toArray, List.set_cons_zero, List.set_cons_succ]
    refine take_skip (i := 8) (d := 34) (j := 6) (b := false) rfl rfl (by kernel_rfl) (by kernel_rfl) (by kernel_rfl) (fun _ _ _ h => h) rfl rfl (by assumption) ?_
    try simp only [List.setIfInBounds_toArray, List.set_cons_zero, List.set_cons_succ]
    refine take_skip (i := 9) (d := 35) (j := 6) (b := false) rfl rfl (by kernel_rfl) (by kernel_rfl) (by kernel_rfl) (fun _ _ _ h => h) rfl rfl (by assumption) ?_
    try simp only [List.setIfInBounds_toArray, List.set_cons_zero, List.set_cons_succ]
    refine take_skip (i := 10) (d := 36) (j := 6) (b := false) rfl rfl (by kernel_rfl) (by kernel_rfl) (by kernel_rfl) (fun _ _ _ h => h) rfl rfl (by assumption) ?_
    try simp only [List.setIfInBounds_toArray, List.set_cons_zero, List.set_cons_succ]
    refine take_do (i := 11) (d := 37) (v := ?_) rfl rfl (by kernel_rfl) (by kernel_rfl) (by kernel_rfl) (fun _ _ _ h => h) rfl ?_ (by assumption) ?_
    rotate_left
    · intro W hSw
      try dsimp only at hSw
      go_simp
      try with_reducible rfl
    try simp only [List.setIfInBounds_toArray, List.set_cons_zero, List.set_cons_succ]
    refine take_do (i := 12) (d := 6) (v := ?_) rfl rfl (by kernel_rfl) (by kernel_rfl) (by kernel_rfl) (fun _ _ _ h => h) rfl ?_ (by assumption) ?_
    rotate_left
    · intro W hSw
      try dsimp only at hSw
      go_simp
      try with_reducible rfl
    try simp only [List.setIfInBounds_toArray, List.set_cons_zero, List.set_cons_succ]
    refine take_do (i := 13) (d := 7) (v := ?_) rfl rfl (by kernel_rfl) (by kernel_rfl) (by kernel_rfl) (fun _ _ _ h => h) rfl ?_ (by assumption) ?_
    rotate_left
    · intro W hSw
      try dsimp only at hSw
      go_simp
      try with_reducible rfl
    try simp only [List.setIfInBounds_toArray, List.set_cons_zero, List.set_cons_succ]
    refine wpAnyH_done (by kernel_rfl) ?_ _
    go_wp2
    go_ret2
    exact ⟨_, rfl, v4, (by show Value.tuple #[v4, .bool true] = _; simp), HR4.out, HB0.out.trans (HB4.out.mono HB0.out.size), HA4.out.mono HB0.out.size⟩
end E
end Go.Proofs.YthhlpjhkeendcaaGreatDoor
