/- The chapter's first examples hold: awake. -/
import Derived.Test.YtaedlnliglmomaaDoorVAll
import Derived.Test.YtaedlnliglmomaaDoorVList
import Derived.Test.YtaedlnliglmomaaDoorVDepth
import Derived.Test.YtaedlnliglmomaaDoorVFault0
import Derived.Test.YtaedlnliglmomaaDoorVOrd
namespace Go.Proofs.YtaedlnliglmomaaDoor
open Go.RowKit Go.Shelf
set_option linter.unusedVariables false
attribute [local go_sem] Oper.semAt_some

/-- the two of the first example -/
theorem two_of {y : V} (h : y.t = T.of 21 0 ⟨#[]⟩ 0 [T.of 4 7 ⟨#[]⟩ 0 []]) : ∃ a c a' c', y = .of 21 0 ⟨#[]⟩ a c 0 [.of 4 7 ⟨#[]⟩ a' c' 0 []] := by
  obtain ⟨k, n, s, a, c, e, l, rfl⟩ := V.ex y
  rw [V.t_of, V.ts_map] at h
  obtain ⟨rfl, rfl, rfl, _, _, rfl, h'⟩ := V.of_inj h
  clear h
  match l with
  | [] => simp at h'
  | [x] =>
    obtain ⟨k', n', s', a', c', e', l', rfl⟩ := V.ex x
    simp only [List.map_cons, List.map_nil, List.cons.injEq, and_true] at h'
    rw [V.t_of, V.ts_map] at h'
    obtain ⟨rfl, rfl, rfl, _, _, rfl, h2⟩ := V.of_inj h'
    clear h'
    match l' with
    | [] => exact ⟨a, c, a', c', rfl⟩
    | _ :: _ => simp at h2
  | _ :: _ :: _ => simp at h'
theorem two_all (a : Option Addr) (c : Nat) (a' : Option Addr) (c' : Nat) : (V.of 21 0 ⟨#[]⟩ a c 0 [.of 4 7 ⟨#[]⟩ a' c' 0 []]).all 1 = [(1, .of 21 0 ⟨#[]⟩ a c 0 [.of 4 7 ⟨#[]⟩ a' c' 0 []]), (2, .of 4 7 ⟨#[]⟩ a' c' 0 [])] := by
  rw [V.all_of, V.alls, V.alls, V.all_of, V.alls, show wrap64 (1 + 1) = 2 by first | (unfold wrap64; decide) | simp [wrap64]]
  rfl

theorem check_two (y : V) (n₀ : Nat) (w : World) (hn : n₀ ≤ w.heap.size) (hl : Lies n₀ w y) (h : y.t = T.of 21 0 ⟨#[]⟩ 0 [T.of 4 7 ⟨#[]⟩ 0 []]) :
    Calls Tryd.prog 11 #[y.val] w fun e w' => e = .returned (.int .i64 0) ∧ Below w.heap.size w w' := by
  obtain ⟨a, c, a', c', rfl⟩ := two_of h
  refine (check_gen _ n₀ w hn hl (fun _ => 0) ?_).mono (fun e w' h => by rwa [firstE_none _ _ (fun _ _ => rfl)] at h)
  rw [two_all]
  intro x hx
  simp only [List.mem_cons, List.not_mem_nil, or_false] at hx
  rcases hx with rfl | rfl
  · intro n₁ w1 h1 h2
    have := h2.ok.l
    have := h2.ok.c
    exact fault_list a c 1 w1 (by omega)
  · intro n₁ w1 h1 h2
    exact fault_uint a' c' w1
theorem check_bool (a : Option Addr) (c n₀ : Nat) (w : World) (hn : n₀ ≤ w.heap.size) (hl : Lies n₀ w (.of 1 2 ⟨#[]⟩ a c 0 [])) :
    Calls Tryd.prog 11 #[(V.of 1 2 ⟨#[]⟩ a c 0 []).val] w fun e w' => e = .returned (.int .i64 21) ∧ Below w.heap.size w w' := by
  have hall : (V.of 1 2 ⟨#[]⟩ a c 0 []).all 1 = [(1, .of 1 2 ⟨#[]⟩ a c 0 [])] := by rw [V.all_of, V.alls]
  refine (check_gen _ n₀ w hn hl (fun _ => 21) ?_).mono (fun e w' h => by rw [hall] at h; exact h)
  rw [hall]
  intro x hx
  obtain rfl : x = (1, .of 1 2 ⟨#[]⟩ a c 0 []) := by simpa using hx
  intro n₁ w1 h1 h2
  exact fault_bool a c w1
theorem depth_two (y : V) (n₀ : Nat) (w : World) (hn : n₀ ≤ w.heap.size) (hl : Lies n₀ w y) (h : y.t = T.of 21 0 ⟨#[]⟩ 0 [T.of 4 7 ⟨#[]⟩ 0 []]) :
    Calls Tryd.prog 30 #[y.val] w fun e w' => e = .returned (.int .i64 2) ∧ Below w.heap.size w w' := by
  obtain ⟨a, c, a', c', rfl⟩ := two_of h
  refine (depth_any _ n₀ w hn hl).mono (fun e w' h => ?_)
  rw [two_all] at h
  exact h
theorem order_ex (a b : Option Addr) (c d n₀ : Nat) (w : World) (hn : n₀ ≤ w.heap.size) (hx : Lies n₀ w (.of 8 5 ⟨#[]⟩ a c 0 [])) (hy : Lies n₀ w (.of 4 9 ⟨#[]⟩ b d 0 [])) :
    Calls Tryd.prog 31 #[(V.of 8 5 ⟨#[]⟩ a c 0 []).val, (V.of 4 9 ⟨#[]⟩ b d 0 []).val] w fun e w' => e = .returned (.int .i64 1) ∧ Below w.heap.size w w' := by
  refine (order_any _ _ n₀ w hn hx hy).mono (fun e w' h => ?_)
  have : T.ord (V.of 8 5 ⟨#[]⟩ a c 0 []).t (V.of 4 9 ⟨#[]⟩ b d 0 []).t = 1 := by
    rw [V.t_of, V.t_of, T.of, T.ord_of]
    rfl
  rwa [this] at h

set_option maxRecDepth 100000 in
set_option maxHeartbeats 2000000 in
theorem awake_any (w : World) : Calls Tryd.prog 8 #[] w fun e w' => e = .returned (.bool true) ∧ Below w.heap.size w w' := by
  refine (callsIn_wide (n := 3)).1 ?_
  have hdd : ∀ k : Nat, (Fence.wide.depth.isSome = true → 1 ≤ k) := fun k h => by cases h
  refine callsIn_of_wp_marks Tryd.func8 rfl trivial ?_ rfl
  simp only [Tryd.ntmps8, List.size_toArray, List.length_nil, Nat.reduceSub, Array.replicate_succ, Array.replicate_zero, List.push_toArray, List.append_toArray, List.nil_append, List.cons_append]
  gi_wp2_with fail
  refine ⟨trivial, ?_⟩
  refine (callsIn_wide.2 (listed_any [.of 4 7 ⟨#[]⟩ none 0 0 []] (some ⟨w.heap.size, 0, none⟩) 1 (w.heap.size + 1) _ (by simp) (by simp) (by simp) (fun _ => ⟨_, 0, rfl, by omega, ?row⟩) ?lies)).mono ?_
  case row =>
    intro i hi
    obtain rfl : i = 0 := by simpa using hi
    refine ⟨?_, ?_, ?_, ?_, ?_⟩ <;> simp [World.cell?_alloc_at, V.k_of, V.n_of, V.s_of, V.a_of, V.c_of, V.e_of, V.l_of]
  case lies =>
    intro x hx
    obtain rfl : x = .of 4 7 ⟨#[]⟩ none 0 0 [] := by simpa using hx
    exact .mk ⟨by decide, by decide, by decide, by decide, by decide, by decide⟩ (by simp) (by simp)
  rintro e w1 ⟨y, rfl, HY, hb1⟩
  have hsz1 : w.heap.size + 1 ≤ w1.heap.size := by have := hb1.size; simpa using this
  have hbw1 := belOn (bel1 (Below.refl w.heap.size w) (Nat.le_refl _) _) (by simp) hb1
  have HT : Hid (y.t = T.of 21 0 ⟨#[]⟩ 0 [T.of 4 7 ⟨#[]⟩ 0 []]) := by
    have := HY.out.1
    rwa [V.ts, V.ts, V.t_of, V.ts] at this
  have HL1 : Hid (Lies w1.heap.size w1 y) := LiesIn.keep HY.out.2 (fun _ _ _ => rfl) (fun b h => h.2)
  clear HY hb1
  gi_wp2_with fail
  refine ⟨trivial, ?_⟩
  have hb2 := bel1 (Below.refl w1.heap.size w1) (Nat.le_refl _) (Obj.cells #[.int .i64 y.k, .int .u64 y.n, .string y.s, .slice y.a y.l.length y.c, .int .i64 y.e] 25)
  refine (callsIn_wide.2 (allf_any y w1.heap.size _ (by simp) (HL1.out.keep hb2 (Nat.le_refl _)))).mono ?_
  rintro e w2 ⟨B, y2, rfl, HY2, hb3⟩
  have hsz2 : w1.heap.size + 1 ≤ w2.heap.size := by have := hb3.size; simpa using this
  have hbox : BoxV w2 w1.heap.size y := (hb3.block w1.heap.size (by simp)).trans (BoxV.new w1 y)
  have hb4 : Below w1.heap.size w1 w2 := hb2.trans (hb3.mono (by simp))
  clear hb2 hb3
  have heq : ∀ u, (binOp BinOp.eql 45 (.func (.func 44) #[] #[.pointer (some ⟨B, 0, none⟩)]) .nilFunc).run Tryd.prog u = .ok (.bool false) u := fun u => by
    first | rfl | (simp [binOp, Tryd.underlying45, go_sem]; done)
  gi_wp2_with fail
  obtain ⟨hy2, hB2, hB3, hl2⟩ := HY2.out
  simp only [World.size_alloc] at hB3 hl2
  have hBlt := hB2.lt
  have hb5 := bel1 (Below.refl w2.heap.size w2) (Nat.le_refl _) (Obj.cells #[.int .i64 0] 3)
  have hN0 : Boxed (w2.alloc (Obj.cells #[.int .i64 0] 3)) w2.heap.size 3 (.int .i64 0) := World.alloc_heap_new _ _
  obtain ⟨W0, hW0⟩ : ∃ W0, w2.alloc (Obj.cells #[.int .i64 0] 3) = W0 := ⟨_, rfl⟩
  have hs0 : W0.heap.size = w2.heap.size + 1 := by rw [← hW0]; simp
  rw [hW0] at hb5 hN0
  rw [hW0]
  clear hW0
  have hst := all_seq (fun b => b = w2.heap.size) (fun b => b = w2.heap.size) (fun b => w1.heap.size + 1 ≤ b ∧ b < w2.heap.size) (fun _ h => h) (fun b h1 h2 => by omega) y2 B (by show ¬ B = w2.heap.size; omega) W0 (hB2.below hb5 hBlt) (hl2.keep (fun b hb o => hb5.cell (p := ⟨b, o, none⟩) hb.2) (fun _ h => h)) (fun b h => by omega) (fun b h => by omega)
  have hlen : (y2.all 1).length = 2 := by
    obtain ⟨a, c, a', c', e2⟩ := two_of (hy2.trans HT.out)
    rw [e2, two_all]
    rfl
  refine range_own (gf := 44) (lb := #[.pointer (some ⟨B, 0, none⟩)]) rfl (enters_of Tryd.func44 (by kernel_rfl) rfl) hst (fun b h => by omega) (fun _ h => h) (fun b h => by omega) (fun _ => rfl)
    (fun pre W => Boxed W w2.heap.size 3 (.int .i64 (pre.length : Int)) ∧ Below w2.heap.size w2 W) (fun _ _ _ => False)
    (OwnFrom.and (Own.from (boxed_own _ _ _) _) (ownFrom_below (Nat.le_refl _) (by omega))) (fun _ _ _ _ _ hs _ _ => hs) ⟨hN0, hb5⟩
    (fun x a' _ => a' = { tmps := #[.bool false, .pointer (some ⟨w1.heap.size, 0, none⟩), .func (.func 44) #[] #[.pointer (some ⟨B, 0, none⟩)], .pointer (some ⟨w2.heap.size, 0, none⟩), undef, undef, undef, undef, .agg #[.int .i64 4, .int .u64 7, .string ⟨#[]⟩, .slice none 0 0, .int .i64 0], .slice (some ⟨w.heap.size, 0, none⟩) 1 1, .agg #[.int .i64 y.k, .int .u64 y.n, .string y.s, .slice y.a y.l.length y.c, .int .i64 y.e], .agg #[.int .i64 y.k, .int .u64 y.n, .string y.s, .slice y.a y.l.length y.c, .int .i64 y.e], .func (.func 44) #[] #[.pointer (some ⟨B, 0, none⟩)], .func (.func 44) #[] #[.pointer (some ⟨B, 0, none⟩)], .bool false, .func (.func 44) #[] #[.pointer (some ⟨B, 0, none⟩)], .int .i64 x.1, x.2.val, undef, undef, undef, undef, undef, undef, undef, undef, undef, undef, undef, undef, undef, undef, undef, undef, undef, undef, undef, undef, undef, undef, undef, undef, undef, undef, undef, undef, undef], defers := [] })
    (fun x a' _ A B row hs _ _ => hs) ?assign ?body ?done ?stop
  case assign =>
    intro l pre x W K hR hi hK
    simp only [encV]
    gi_wp2
    exact hK _ _ (KpX.refl _ _) hi rfl
  case body =>
    rintro l pre x a' W hl' _ ⟨hv, hB⟩ rfl hlt
    have hc := hv.cell
    have hf := hv.frozen
    rw [hlen] at hlt
    gi_wp2
    refine ⟨KpX.setCell (X := fun b => b = w2.heap.size) (KpX.refl _ W) rfl _ _, ?_, hB.setCell (p := ⟨w2.heap.size, 0, none⟩) (Nat.le_refl _) _⟩
    have := hv.set (.int .i64 ((pre.length : Int) + 1))
    simpa using this
  case stop =>
    rintro D c pre W _ _ h _
    exact h.elim
  case done =>
    rintro D ys W hD hys ⟨hv, hB⟩ hK
    have hyl : ys.length = 2 := by
      have := congrArg List.length hys
      simpa [bare, hlen] using this
    rw [hyl] at hv
    have hszW := hB.size
    have hbx := (hbox.below hB (by omega))
    obtain ⟨d0, d1, d2, d3, d4⟩ := hbx.cells
    have hc := hv.cell
    have HLW : Hid (Lies w1.heap.size W y) := (HL1.out.keep hb4 (Nat.le_refl _)).keep hB (by omega)
    have HK := hide hK
    clear hst hK
    gi_wp2_with fail
    refine ⟨trivial, ?_⟩
    have k3 := check_two y w1.heap.size W (by omega) HLW.out HT.out
    rw [V.val_eq] at k3
    refine (callsIn_wide.2 k3).mono ?_
    clear k3
    rintro e w3 ⟨rfl, hb3⟩
    have hs3 := hb3.size
    gi_wp2_with fail
    refine ⟨trivial, ?_⟩
    refine (callsIn_wide.2 (check_bool none 0 0 w3 (Nat.zero_le _) (.mk ⟨by decide, by decide, by decide, by decide, by decide, by decide⟩ (by simp) (by simp)))).mono ?_
    rintro e w4 ⟨rfl, hb4'⟩
    have hs4 := hb4'.size
    gi_wp2_with fail
    refine ⟨trivial, ?_⟩
    refine (callsIn_wide.2 (order_ex none none 0 0 0 w4 (Nat.zero_le _) (.mk ⟨by decide, by decide, by decide, by decide, by decide, by decide⟩ (by simp) (by simp)) (.mk ⟨by decide, by decide, by decide, by decide, by decide, by decide⟩ (by simp) (by simp)))).mono ?_
    rintro e w5 ⟨rfl, hb5'⟩
    have hs5 := hb5'.size
    have hbW5 : Below W.heap.size W w5 := (hb3.trans (hb4'.mono hs3)).trans (hb5'.mono (by omega))
    obtain ⟨f0, f1, f2, f3, f4⟩ := (hbx.below hbW5 hbx.lt).cells
    have HL5 := hide (HLW.out.keep hbW5 (by omega))
    gi_wp2_with fail
    refine ⟨trivial, ?_⟩
    have k6 := depth_two y w1.heap.size w5 (by omega) HL5.out HT.out
    rw [V.val_eq] at k6
    refine (callsIn_wide.2 k6).mono ?_
    clear k6
    rintro e w6 ⟨rfl, hb6⟩
    have hs6 := hb6.size
    have hbW6 : Below W.heap.size W w6 := hbW5.trans (hb6.mono (by omega))
    have hv6 : Boxed w6 w2.heap.size 3 (.int .i64 2) := (hbW6.block _ hv.lt).trans hv
    have hc6 := hv6.cell
    have hK6 : w6.heap[D]? = some (.deferred (some [])) := (hbW6.block D (Array.getElem?_eq_some_iff.1 HK.out).1).trans HK.out
    have HK6 := hide hK6
    clear hK6
    gi_wp2
    refine ⟨by simp, .inl ⟨_, _, rfl, run_takeDeferred HK6.out, ?_⟩⟩
    have hbw2 : Below w.heap.size w w2 := belOn hbw1 (by omega) hb4
    have hbwW : Below w.heap.size w W := belOn hbw2 (by omega) hB
    have hbw6 : Below w.heap.size w w6 := belOn hbwW (by omega) hbW6
    exact ⟨_, results_tmp rfl _ _ _, rfl, hbw6.trans (belowK_b (w := w) (Nat.le_refl _) w6 D _ _ (by omega) HK6.out rfl rfl)⟩
end Go.Proofs.YtaedlnliglmomaaDoor
