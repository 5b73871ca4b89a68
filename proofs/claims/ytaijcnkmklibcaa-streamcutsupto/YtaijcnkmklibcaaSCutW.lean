
/- Stage 6: StreamCuts, the walk. -/
import Derived.Test.YtaijcnkmklibcaaSRunW
import Derived.Test.YtaijcnkmklibcaaSSame
namespace Go.Proofs.Ytaijcnkmklibcaa
open Go.RowKit Go.Deep
set_option linter.unusedVariables false
set_option linter.unusedSimpArgs false

/-- what run answers, whatever the limit -/
theorem run_out (most : Int) (lb : List Nat) : ∃ (sa sb : Int) (sc : Bool) (sd se : Int) (L : List It6), L.length ≤ lb.length ∧ ∀ (w : World) (e : Ending) (W : World), RunP most lb w e W → Below w.heap.size w W ∧ ∃ (ys : List Ev) (a : Option Addr) (c : Nat), e = .returned (.tuple #[.slice a L.length c, .agg #[.int .i64 sa, .int .i64 sb, .bool sc, .int .i64 sd, .int .i64 se], .bool true]) ∧ ys.map (·.2) = L ∧ W.ownsRow w.heap.size 51 6 (.slice a L.length c) ys.length (ys.flatMap Ev.cs) ∧ ∀ y ∈ ys, y.ok W w.heap.size := by
  by_cases hm : 512 ≤ most ∧ most ≤ 1048576
  · refine ⟨((sNew most).go lb).1.2.1, (((sNew most).go lb).2.1.length : Int), ((sNew most).go lb).2.2.2.1.1, ((sNew most).go lb).2.2.2.1.2, ((sNew most).go lb).1.2.2, (sNew most).its lb, its_length _ _, fun w e W h => ?_⟩
    obtain ⟨h1, ys, vo, h2, h3, h4, _⟩ := h
    obtain ⟨h5, h6⟩ := h4 hm
    have hl : ys.length = ((sNew most).its lb).length := by rw [← h5]; simp
    obtain ⟨a, c, rfl⟩ := row_slice h2
    exact ⟨h1, ys, a, c, by rw [h6, ← hl]; rfl, h5, by rw [← hl]; exact h2, h3⟩
  · refine ⟨0, 0, false, 0, 0, [], Nat.zero_le _, fun w e W h => ?_⟩
    obtain ⟨h1, ys, vo, h2, h3, _, h4⟩ := h
    obtain ⟨rfl, h6⟩ := h4 hm
    obtain ⟨a, c, rfl⟩ := row_slice h2
    exact ⟨h1, [], a, c, h6, rfl, h2, h3⟩
theorem ri_below {w W : World} {a : Option Addr} {n : Nat} {zs : List Int} (h : Ri w a n zs) (hb : Below w.heap.size w W) : Ri W a n zs := fun hn => by
  obtain ⟨b, o, e, hlt, hc⟩ := h hn
  exact ⟨b, o, e, by have := hb.size; omega, fun j hj => (hb.cell (p := ⟨b, o + j, none⟩) hlt).trans (hc j hj)⟩
set_option maxRecDepth 100000 in
set_option maxHeartbeats 2000000 in
theorem cuts_walk (most : Int) (ab : Option Addr) (cb : Nat) (lb : List Nat) (ac : Option Addr) (nc cc : Nat) (zs : List Int) (w : World) (hrb : Rd w ab lb.length lb) (hrc : Ri w ac nc zs) (hwz : ∀ j, j < nc → -9223372036854775808 ≤ zs.getD j 0 ∧ zs.getD j 0 < 9223372036854775808) (hnb : lb.length ≤ cb) (hab : ab = none → cb = 0) (hzb : lb.length ≤ 1048576) (hzc : nc ≤ 1048576) :
    Calls Try.prog 4 #[.int .i64 most, .slice ab lb.length cb, .slice ac nc cc] w fun e w' => e = .returned (.bool true) ∧ Below w.heap.size w w' := by
  obtain ⟨sa, sb, sc, sd, se, L, hL, hout⟩ := run_out most lb
  have HR1 : Hid (∀ W, Below w.heap.size w W → Calls Try.prog 13 #[.int .i64 most, .slice ab lb.length cb, .slice ac nc cc] W fun e W' => Below W.heap.size W W' ∧ ∃ (ys : List Ev) (a : Option Addr) (c : Nat), e = .returned (.tuple #[.slice a L.length c, .agg #[.int .i64 sa, .int .i64 sb, .bool sc, .int .i64 sd, .int .i64 se], .bool true]) ∧ ys.map (·.2) = L ∧ W'.ownsRow W.heap.size 51 6 (.slice a L.length c) ys.length (ys.flatMap Ev.cs) ∧ ∀ y ∈ ys, y.ok W' W.heap.size) := fun W hb =>
    (run_any most ab cb lb ac nc cc zs W (hrb.below hb) (ri_below hrc hb) hwz hnb hab (by omega) (by omega)).mono (fun e W' h => hout W e W' h)
  have HR2 : Hid (∀ W, Below w.heap.size w W → Calls Try.prog 13 #[.int .i64 most, .slice ab lb.length cb, .slice none 0 0] W fun e W' => Below W.heap.size W W' ∧ ∃ (ys : List Ev) (a : Option Addr) (c : Nat), e = .returned (.tuple #[.slice a L.length c, .agg #[.int .i64 sa, .int .i64 sb, .bool sc, .int .i64 sd, .int .i64 se], .bool true]) ∧ ys.map (·.2) = L ∧ W'.ownsRow W.heap.size 51 6 (.slice a L.length c) ys.length (ys.flatMap Ev.cs) ∧ ∀ y ∈ ys, y.ok W' W.heap.size) := fun W hb =>
    (run_any most ab cb lb none 0 0 [] W (hrb.below hb) (fun h => by omega) (fun j h => by omega) hnb hab (by omega) (by omega)).mono (fun e W' h => hout W e W' h)
  have HL := hide (show L.length ≤ 200000000 by omega)
  clear hrb hrc hwz hnb hab hzb hzc hL hout
  go_enter Try.func4, Try.ntmps4
  go_wp2_with fail
  refine (awake_any w).mono ?_
  rintro e w1 ⟨rfl, hb1⟩
  have HB1 := hide hb1
  clear hb1
  go_wp2_with fail
  refine (HR1.out w1 HB1.out).mono ?_
  rintro e w2 ⟨hb2, ys, a2, c2, rfl, hy1, hy2, hy3⟩
  have HB2 : Hid (Below w.heap.size w w2) := HB1.out.trans (hb2.mono HB1.out.size)
  have HY := hide (And.intro hy1 (And.intro hy2 hy3))
  clear hb2 hy1 hy2 hy3 HR1
  go_wp2_with fail
  have hb2a : Below w.heap.size w (w2.alloc (.cells #[.int .i64 sa, .int .i64 sb, .bool sc, .int .i64 sd, .int .i64 se] 40)) := HB2.out.alloc HB2.out.size _
  refine (HR2.out _ hb2a).mono ?_
  rintro e w3 ⟨hb3, zs2, a3, c3, rfl, hz1, hz2, hz3⟩
  have hsz3 := hb3.size
  simp only [World.size_alloc] at hsz3
  have hb23 : Below w2.heap.size w2 w3 := (below_box w2 _).trans (hb3.mono (by simp))
  have HB3 : Hid (Below w.heap.size w w3) := HB2.out.trans (hb23.mono HB2.out.size)
  have hS3 : w3.heap[w2.heap.size]? = some (.cells #[.int .i64 sa, .int .i64 sb, .bool sc, .int .i64 sd, .int .i64 se] 40 (0, 0)) := (hb3.block _ (by simp)).trans (World.alloc_heap_new _ _)
  have hY3 : w3.ownsRow w1.heap.size 51 6 (.slice a2 L.length c2) ys.length (ys.flatMap Ev.cs) := row_keep HY.out.2.1 (fun k cs e => hb23.block k (Array.getElem?_eq_some_iff.1 e).1)
  have hYk : ∀ y ∈ ys, y.ok w3 w1.heap.size := fun y hy => (HY.out.2.2 y hy).below hb23
  have HZ := hide (And.intro hz1 (And.intro hz2 (And.intro hz3 (And.intro hY3 (And.intro hYk (And.intro hS3 hb23))))))
  clear hb3 hz1 hz2 hz3 hY3 hYk hS3 hb23 hb2a HR2
  go_wp2_with fail
  obtain ⟨hz1, hz2, hz3, hY3, hYk, hS3, hb23⟩ := HZ.out
  have hlen : (ys.map Ev.g).length ≤ 200000000 := by
    rw [List.length_map]
    have h1 : ys.length = L.length := by rw [← HY.out.1]; simp
    have := HL.out
    omega
  refine (sameItems_any (ys.map Ev.g) (zs2.map Ev.g) (by rw [map_g, map_g, hz1]; exact HY.out.1) (.slice a2 L.length c2) (.slice a3 L.length c3) _ _ _ (by rw [flat_g, List.length_map]; exact hY3.alloc _) (by rw [flat_g, List.length_map]; exact hz2.alloc _) (fun y hy => by obtain ⟨y', h1, rfl⟩ := List.mem_map.1 hy; exact ((hYk y' h1).below (below_box _ _)).g) (fun z hz => by obtain ⟨z', h1, rfl⟩ := List.mem_map.1 hz; exact ((hz3 z' h1).below (below_box _ _)).g) hlen).mono ?_
  rintro e w4 ⟨rfl, hb4⟩
  have hsz4 := hb4.size
  simp only [World.size_alloc] at hsz4
  have e1 : w4.heap[w2.heap.size]? = some (.cells #[.int .i64 sa, .int .i64 sb, .bool sc, .int .i64 sd, .int .i64 se] 40 (0, 0)) := (hb4.block _ (by simp; omega)).trans (heap_past hS3 _)
  have e2 : w4.heap[w3.heap.size]? = some (.cells #[.int .i64 sa, .int .i64 sb, .bool sc, .int .i64 sd, .int .i64 se] 40 (0, 0)) := (hb4.block _ (by simp)).trans (World.alloc_heap_new _ _)
  obtain ⟨x0, x1, x2, x3, x4, _⟩ := st_facts e1
  obtain ⟨y0, y1, y2, y3, y4, _⟩ := st_facts e2
  have hl1 : w2.heap.size < w4.heap.size := by omega
  have hl2 : w3.heap.size < w4.heap.size := by omega
  have HB4 : Hid (Below w.heap.size w w4) := (HB3.out.alloc HB3.out.size _).trans (hb4.mono (by have := HB3.out.size; simp; omega))
  clear hb4 e1 e2 hz1 hz2 hz3 hY3 hYk hS3 hb23 HZ HY
  go_wp2_with fail
  go_ret
  exact ⟨rfl, HB4.out⟩
end Go.Proofs.Ytaijcnkmklibcaa
