/- CDec -/
import Derived.Test.YthhlpjhkeendcaaGreatDoorS35
import Derived.Defers
import Derived.Recover
import Derived.Laws.Pointers
namespace Go.Proofs.YthhlpjhkeendcaaGreatDoor
open Go.RowKit
set_option linter.unusedVariables false
set_option linter.unusedSimpArgs false
theorem run_assert (x y : Int) (w : World) : (Instr.typeAssert (.iface 57 (.agg #[.int .i64 x, .int .i64 y])) 20 57 false).run Tryz.prog w = .ok (.agg #[.int .i64 x, .int .i64 y]) w := by kernel_rfl
set_option maxRecDepth 100000 in
theorem catch_idle (p q r : Addr) (w : World) :
    CallsD Tryz.prog 27 #[.pointer (some p), .pointer (some q), .pointer (some r)] .returning w fun e u' w' => e = .returned (.tuple #[]) ∧ u' = .returning ∧ w' = w := by
  refine callsD_of_wpS Tryz.func27 rfl fun c₀ cs hu => ?_
  apply wpS_seq
  apply wpS_region
  simp [wpOpsS, go_sem, recoverD, hu, Tryz.ntmps27, Exit.thenS]
  refine wpS_of_wp ?_
  simp only [Array.replicate_succ, Array.replicate_zero, List.push_toArray, List.append_toArray, List.nil_append, List.cons_append, List.setIfInBounds_toArray, List.set_cons_zero, List.set_cons_succ]
  go_wp2
  cases c₀
  simp_all [bodyPostS, results, Tryz.results27]
def Caught (b0 b1 b2 : Nat) (at_ er : Int) (w w' : World) : Prop := w' = ((((((((w.alloc (.cells #[.int .i64 at_, .int .i64 er] 57)).setCell ⟨b0, 0, none⟩ (.int .i64 0)).setCell ⟨b0, 1, none⟩ (.int .u64 0)).setCell ⟨b0, 2, none⟩ (.string ⟨#[]⟩)).setCell ⟨b0, 3, none⟩ (.slice none 0 0)).setCell ⟨b0, 4, none⟩ (.int .i64 0)).setCell ⟨b1, 0, none⟩ (.int .i64 at_)).setCell ⟨b2, 0, none⟩ (.int .i64 er)).drew
set_option maxRecDepth 100000 in
set_option maxHeartbeats 1000000 in
theorem catch_panicking (b0 b1 b2 : Nat) (at_ er : Int) (v0 v1 v2 v3 v4 v5 v6 : Value) (w : World)
    (h0 : w.cell? ⟨b0, 0, none⟩ = some v0) (h1 : w.cell? ⟨b0, 1, none⟩ = some v1) (h2 : w.cell? ⟨b0, 2, none⟩ = some v2) (h3 : w.cell? ⟨b0, 3, none⟩ = some v3) (h4 : w.cell? ⟨b0, 4, none⟩ = some v4) (h5 : w.cell? ⟨b1, 0, none⟩ = some v5) (h6 : w.cell? ⟨b2, 0, none⟩ = some v6)
    (f0 : ∀ o, w.frozen? ⟨b0, o, none⟩ = false) (f1 : w.frozen? ⟨b1, 0, none⟩ = false) (f2 : w.frozen? ⟨b2, 0, none⟩ = false) (l0 : b0 < w.heap.size) (l1 : b1 < w.heap.size) (l2 : b2 < w.heap.size) (n01 : b0 ≠ b1) (n02 : b0 ≠ b2) (n12 : b1 ≠ b2) :
    CallsD Tryz.prog 27 #[.pointer (some ⟨b0, 0, none⟩), .pointer (some ⟨b1, 0, none⟩), .pointer (some ⟨b2, 0, none⟩)] (.panicking [{ v := .iface 57 (.agg #[.int .i64 at_, .int .i64 er]), recovered := false }]) w fun e u' w' =>
      e = .returned (.tuple #[]) ∧ u' = .panicking [{ v := .iface 57 (.agg #[.int .i64 at_, .int .i64 er]), recovered := true }] ∧ Caught b0 b1 b2 at_ er w w' := by
  have hta := run_assert at_ er
  refine callsD_of_wpS Tryz.func27 rfl fun c₀ cs hu => ?_
  apply wpS_seq
  apply wpS_region
  simp [wpOpsS, go_sem, recoverD, hu, Tryz.ntmps27, Exit.thenS]
  refine wpS_of_wp ?_
  simp only [Array.replicate_succ, Array.replicate_zero, List.push_toArray, List.append_toArray, List.nil_append, List.cons_append, List.setIfInBounds_toArray, List.set_cons_zero, List.set_cons_succ]
  have m0 : b0 ≠ w.heap.size := by omega
  have m1 : b1 ≠ w.heap.size := by omega
  have m2 : b2 ≠ w.heap.size := by omega
  have n10 := n01.symm
  have n20 := n02.symm
  have n21 := n12.symm
  go_wp2
  obtain ⟨W0, hW0⟩ : ∃ W0, w.alloc (Obj.cells #[.int .i64 at_, .int .i64 er] 57) = W0 := ⟨_, rfl⟩
  have c0 : W0.cell? ⟨b0, 0, none⟩ = some v0 := by rw [← hW0, World.cell?_alloc_past _ _ _ l0]; exact h0
  have c1 : W0.cell? ⟨b0, 1, none⟩ = some v1 := by rw [← hW0, World.cell?_alloc_past _ _ _ l0]; exact h1
  have c2 : W0.cell? ⟨b0, 2, none⟩ = some v2 := by rw [← hW0, World.cell?_alloc_past _ _ _ l0]; exact h2
  have c3 : W0.cell? ⟨b0, 3, none⟩ = some v3 := by rw [← hW0, World.cell?_alloc_past _ _ _ l0]; exact h3
  have c4 : W0.cell? ⟨b0, 4, none⟩ = some v4 := by rw [← hW0, World.cell?_alloc_past _ _ _ l0]; exact h4
  have c5 : W0.cell? ⟨b1, 0, none⟩ = some v5 := by rw [← hW0, World.cell?_alloc_past _ _ _ l1]; exact h5
  have c6 : W0.cell? ⟨b2, 0, none⟩ = some v6 := by rw [← hW0, World.cell?_alloc_past _ _ _ l2]; exact h6
  have c7 : W0.cell? ⟨w.heap.size, 0, none⟩ = some (.int .i64 at_) := by rw [← hW0]; simp [World.cell?_alloc_at]
  have c8 : W0.cell? ⟨w.heap.size, 1, none⟩ = some (.int .i64 er) := by rw [← hW0]; simp [World.cell?_alloc_at]
  have fr : ∀ b o, b < w.heap.size → W0.frozen? ⟨b, o, none⟩ = w.frozen? ⟨b, o, none⟩ := fun b o hb => by
    have hh : W0.heap[b]? = w.heap[b]? := by rw [← hW0]; exact Below.heap_alloc _ _ _ hb
    simp [World.frozen?, hh]
  have g0 : ∀ o, W0.frozen? ⟨b0, o, none⟩ = false := fun o => (fr b0 o l0).trans (f0 o)
  have g1 : W0.frozen? ⟨b1, 0, none⟩ = false := (fr b1 0 l1).trans f1
  have g2 : W0.frozen? ⟨b2, 0, none⟩ = false := (fr b2 0 l2).trans f2
  rw [hW0]
  have HW0 := hide hW0
  clear hW0 h0 h1 h2 h3 h4 h5 h6 f0 f1 f2 fr hta
  go_region_held (fun W1 => W1.cell? ⟨w.heap.size, 0, none⟩ = some (.int .i64 at_) ∧ W1.cell? ⟨w.heap.size, 1, none⟩ = some (.int .i64 er)) (go_keep) (fail)
  rename_i Q1 hheld
  clear hheld c0 c1 c2 c3 c4 c5 c6 c7 c8 g0 g1 g2
  rw [← HW0.out]
  cases c₀
  simp [Q1, bodyPostS, results, Tryz.results27, Caught]
def DecOut (r : Res (T × Nat)) (p n : Nat) (w : World) (e : Ending) (w' : World) : Prop :=
  match r with
  | .error x => e = .returned (.tuple #[.agg #[.int .i64 0, .int .u64 0, .string ⟨#[]⟩, .slice none 0 0, .int .i64 0], .int .i64 x.1, .int .i64 x.2]) ∧ Below w.heap.size w w'
  | .ok tq => (∃ y : V, e = .returned (.tuple #[.agg #[.int .i64 y.k, .int .u64 y.n, .string y.s, .slice y.a y.l.length y.c, .int .i64 y.e], .int .i64 (tq.2 : Int), .int .i64 0]) ∧ Hid (y.t = tq.1 ∧ LiesIn (fun b => w.heap.size ≤ b ∧ b < w'.heap.size) w' y ∧ p ≤ tq.2 ∧ tq.2 ≤ n)) ∧ Below w.heap.size w w'
def decW (w : World) (a : Option Addr) (n cap p : Nat) : World :=
  (((w.alloc (.cells #[.int .i64 0, .int .u64 0, .string ⟨#[]⟩, .slice none 0 0, .int .i64 0] 25)).alloc (.cells #[.int .i64 0] 3)).alloc (.cells #[.int .i64 0] 29)).alloc (.cells #[.slice a n cap, .int .i64 (p : Int), .int .i64 (n : Int), .int .i64 (-1)] 59)
theorem decW_size (w : World) (a : Option Addr) (n cap p : Nat) : (decW w a n cap p).heap.size = w.heap.size + 4 := by simp [decW]
theorem decW_boxes (w : World) (a : Option Addr) (n cap p : Nat) : (decW w a n cap p).heap[w.heap.size]? = some (.cells #[.int .i64 0, .int .u64 0, .string ⟨#[]⟩, .slice none 0 0, .int .i64 0] 25) ∧ (decW w a n cap p).heap[w.heap.size + 1]? = some (.cells #[.int .i64 0] 3) ∧ (decW w a n cap p).heap[w.heap.size + 2]? = some (.cells #[.int .i64 0] 29) ∧ RB (decW w a n cap p) (w.heap.size + 3) a n cap p n (-1) := by
  unfold decW RB
  refine ⟨?_, ?_, ?_, ?_⟩
  · exact heap_past (heap_past (heap_past (World.alloc_heap_new _ _) _) _) _
  · exact heap_past (heap_past (heap_at1 _ _ _) _) _
  · exact heap_past (heap_at2 _ _ _ _) _
  · have := World.alloc_heap_new (((w.alloc (.cells #[.int .i64 0, .int .u64 0, .string ⟨#[]⟩, .slice none 0 0, .int .i64 0] 25)).alloc (.cells #[.int .i64 0] 3)).alloc (.cells #[.int .i64 0] 29)) (.cells #[.slice a n cap, .int .i64 (p : Int), .int .i64 (n : Int), .int .i64 (-1)] 59)
    simp only [World.size_alloc] at this
    exact this
theorem decW_below (w : World) (a : Option Addr) (n cap p : Nat) : Below w.heap.size w (decW w a n cap p) := by
  unfold decW
  exact bel2 (bel2 (Below.refl _ _) (Nat.le_refl _) _ _) (by simp; omega) _ _
structure Bts (w : World) (a : Option Addr) (n cap : Nat) (l : List Nat) : Prop where
  rd : Rd w a n l
  room : n ≤ cap
  small : n ≤ 281474976710656
  apart : 0 < n → ∀ x, a = some x → x.block < w.heap.size
  tab : SzTab w
  utf : Lib.Utf8Tabs 1 2 w
  pos : 3 ≤ w.heap.size
theorem Bts.src {w : World} {a : Option Addr} {n cap : Nat} {l : List Nat} (h : Bts w a n cap l) (p : Nat) : Src (decW w a n cap p) (w.heap.size + 3) a n cap l := by
  have hb := decW_below w a n cap p
  refine ⟨⟨h.rd.1, h.rd.2.1, fun hn => ?_⟩, h.room, h.small, fun h0 x hx => by have := h.apart h0 x hx; omega, h.tab.below hb, tabs_below h.utf hb, by have := h.pos; omega⟩
  obtain ⟨b, off, ha, hlt, hc⟩ := h.rd.2.2 hn
  exact ⟨b, off, ha, Nat.lt_of_lt_of_le hlt hb.size, fun j hj => (hb.cell (p := ⟨b, off + j, none⟩) hlt).trans (hc j hj)⟩
theorem heap_set {W : World} {b : Nat} {cs : Array Value} {t : TypeId} {f : Nat × Nat} (h : W.heap[b]? = some (.cells cs t f)) (o : Nat) (u : Value) : (W.setCell ⟨b, o, none⟩ u).heap[b]? = some (.cells (cs.setIfInBounds o u) t f) := by
  simp [World.setCell, Array.getElem?_modify, h]
theorem heap_far {W : World} {b b' : Nat} (hne : b' ≠ b) (o : Nat) (u : Value) : (W.setCell ⟨b, o, none⟩ u).heap[b']? = W.heap[b']? := Below.heap_setCell _ _ _ _ (by exact hne)
theorem cells_at {W : World} {b : Nat} {cs : Array Value} {t : TypeId} {f : Nat × Nat} (h : W.heap[b]? = some (.cells cs t f)) (o : Nat) : W.cell? ⟨b, o, none⟩ = cs[o]? := by simp [World.cell?, h]
theorem free_at {W : World} {b : Nat} {cs : Array Value} {t : TypeId} (h : W.heap[b]? = some (.cells cs t)) (o : Nat) : W.frozen? ⟨b, o, none⟩ = false := by simp [World.frozen?, h]
structure Bx3 (w : World) (b0 : Nat) (W : World) (c0 c1 c2 : Array Value) : Prop where
  h0 : W.heap[b0]? = some (.cells c0 25)
  h1 : W.heap[b0 + 1]? = some (.cells c1 3)
  h2 : W.heap[b0 + 2]? = some (.cells c2 29)
  bl : Below b0 w W
theorem Bx3.s0 {w W : World} {b0 : Nat} {c0 c1 c2 : Array Value} (h : Bx3 w b0 W c0 c1 c2) (o : Nat) (u : Value) : Bx3 w b0 (W.setCell ⟨b0, o, none⟩ u) (c0.setIfInBounds o u) c1 c2 :=
  ⟨heap_set h.h0 o u, (heap_far (by omega) o u).trans h.h1, (heap_far (by omega) o u).trans h.h2, h.bl.setCell (p := ⟨b0, o, none⟩) (Nat.le_refl _) u⟩
theorem Bx3.s1 {w W : World} {b0 : Nat} {c0 c1 c2 : Array Value} (h : Bx3 w b0 W c0 c1 c2) (o : Nat) (u : Value) : Bx3 w b0 (W.setCell ⟨b0 + 1, o, none⟩ u) c0 (c1.setIfInBounds o u) c2 :=
  ⟨(heap_far (by omega) o u).trans h.h0, heap_set h.h1 o u, (heap_far (by omega) o u).trans h.h2, h.bl.setCell (p := ⟨b0 + 1, o, none⟩) (by show b0 ≤ b0 + 1; omega) u⟩
theorem Bx3.s2 {w W : World} {b0 : Nat} {c0 c1 c2 : Array Value} (h : Bx3 w b0 W c0 c1 c2) (o : Nat) (u : Value) : Bx3 w b0 (W.setCell ⟨b0 + 2, o, none⟩ u) c0 c1 (c2.setIfInBounds o u) :=
  ⟨(heap_far (by omega) o u).trans h.h0, (heap_far (by omega) o u).trans h.h1, heap_set h.h2 o u, h.bl.setCell (p := ⟨b0 + 2, o, none⟩) (by show b0 ≤ b0 + 2; omega) u⟩
theorem Bx3.lt {w W : World} {b0 : Nat} {c0 c1 c2 : Array Value} (h : Bx3 w b0 W c0 c1 c2) : b0 + 2 < W.heap.size := (Array.getElem?_eq_some_iff.1 h.h2).1
theorem Bx3.al {w W : World} {b0 : Nat} {c0 c1 c2 : Array Value} (h : Bx3 w b0 W c0 c1 c2) (o : Obj) : Bx3 w b0 (W.alloc o) c0 c1 c2 :=
  ⟨heap_past h.h0 o, heap_past h.h1 o, heap_past h.h2 o, h.bl.alloc (by have := h.lt; omega) o⟩
theorem Bx3.dr {w W : World} {b0 : Nat} {c0 c1 c2 : Array Value} (h : Bx3 w b0 W c0 c1 c2) : Bx3 w b0 W.drew c0 c1 c2 := ⟨h.h0, h.h1, h.h2, h.bl.drew⟩
theorem caught_end {w w1 w' : World} {b0 : Nat} {x y : Int} {v0 v1 v2 v3 v4 v5 v6 : Value} (hc : Caught b0 (b0 + 1) (b0 + 2) x y w1 w') (h : Bx3 w b0 w1 #[v0, v1, v2, v3, v4] #[v5] #[v6]) :
    Bx3 w b0 w' #[.int .i64 0, .int .u64 0, .string ⟨#[]⟩, .slice none 0 0, .int .i64 0] #[.int .i64 x] #[.int .i64 y] := by
  have k := (((((((h.al (.cells #[.int .i64 x, .int .i64 y] 57)).s0 0 (.int .i64 0)).s0 1 (.int .u64 0)).s0 2 (.string ⟨#[]⟩)).s0 3 (.slice none 0 0)).s0 4 (.int .i64 0)).s1 0 (.int .i64 x)).s2 0 (.int .i64 y)
  have e0 : ((((((#[v0, v1, v2, v3, v4] : Array Value).setIfInBounds 0 (.int .i64 0)).setIfInBounds 1 (.int .u64 0)).setIfInBounds 2 (.string ⟨#[]⟩)).setIfInBounds 3 (.slice none 0 0)).setIfInBounds 4 (.int .i64 0)) = #[.int .i64 0, .int .u64 0, .string ⟨#[]⟩, .slice none 0 0, .int .i64 0] := by simp
  have e1 : ((#[v5] : Array Value).setIfInBounds 0 (.int .i64 x)) = #[.int .i64 x] := by simp
  have e2 : ((#[v6] : Array Value).setIfInBounds 0 (.int .i64 y)) = #[.int .i64 y] := by simp
  rw [e0, e1, e2] at k
  unfold Caught at hc
  rw [hc]
  exact k.dr
theorem drew_heap (w : World) : w.drew.heap = w.heap := rfl
theorem seven_over {W2 : World} {b0 b : Nat} (h0 : b ≠ b0) (h1 : b ≠ b0 + 1) (h2 : b ≠ b0 + 2) (u0 u1 u2 u3 u4 u5 u6 : Value) : ((((((((W2.setCell ⟨b0, 0, none⟩ u0).setCell ⟨b0, 1, none⟩ u1).setCell ⟨b0, 2, none⟩ u2).setCell ⟨b0, 3, none⟩ u3).setCell ⟨b0, 4, none⟩ u4).setCell ⟨b0 + 1, 0, none⟩ u5).setCell ⟨b0 + 2, 0, none⟩ u6).drew).heap[b]? = W2.heap[b]? := by
  rw [drew_heap, heap_far h2, heap_far h1, heap_far h0, heap_far h0, heap_far h0, heap_far h0, heap_far h0]
theorem seven_size (W2 : World) (b0 : Nat) (u0 u1 u2 u3 u4 u5 u6 : Value) : ((((((((W2.setCell ⟨b0, 0, none⟩ u0).setCell ⟨b0, 1, none⟩ u1).setCell ⟨b0, 2, none⟩ u2).setCell ⟨b0, 3, none⟩ u3).setCell ⟨b0, 4, none⟩ u4).setCell ⟨b0 + 1, 0, none⟩ u5).setCell ⟨b0 + 2, 0, none⟩ u6).drew).heap.size = W2.heap.size := by
  rw [drew_heap]
  simp
set_option maxRecDepth 100000 in
set_option maxHeartbeats 2000000 in
theorem decode_of (a : Option Addr) (n cap p : Nat) (l : List Nat) (w : World) (hB : Bts w a n cap l) (hp : p ≤ n) (hV : ValC 32 (w.heap.size + 3) a n cap p n (-1) l (decW w a n cap p)) :
    Calls Tryz.prog 15 #[.slice a n cap, .int .i64 (p : Int)] w (DecOut (rdec badB twiceW l p) p n w) := by
  have HV := hide (hV 1 (by omega))
  have hsm := hB.small
  have hln := hB.rd.1
  unfold rdec
  rw [hln]
  obtain ⟨b0, b1, b2, b3⟩ := decW_boxes w a n cap p
  have HBX : Hid (∀ W1, Gro (w.heap.size + 3) (decW w a n cap p) W1 → W1.heap[w.heap.size]? = some (.cells #[.int .i64 0, .int .u64 0, .string ⟨#[]⟩, .slice none 0 0, .int .i64 0] 25) ∧ W1.heap[w.heap.size + 1]? = some (.cells #[.int .i64 0] 3) ∧ W1.heap[w.heap.size + 2]? = some (.cells #[.int .i64 0] 29) ∧ w.heap.size + 3 < W1.heap.size) := fun W1 hW => by
    have hz := decW_size w a n cap p
    exact ⟨(hW.block _ (by omega) (by simp)).trans b0, (hW.block _ (by omega) (by simp)).trans b1, (hW.block _ (by omega) (by simp)).trans b2, by have := hW.size; omega⟩
  have HBW : Hid (∀ W1, Gro (w.heap.size + 3) (decW w a n cap p) W1 → Below w.heap.size w W1) := fun W1 hW => (decW_below w a n cap p).trans (hW.below (by omega) (by rw [decW_size]; omega))
  have hmf : ∀ (fn : Fn) (first cap : Array Value) (w : World), (Instr.makeFunc fn first cap).run Tryz.prog w = .ok (.func fn first cap) w := fun _ _ _ _ => rfl
  have hple : (p : Int) ≤ (n : Int) := by omega
  clear b0 b1 b2 b3 hB hV
  cases hrv : rval badB twiceW l 32 p n (-1) with
  | error x =>
    rw [hrv] at HV
    have HV2 : Hid (Calls Tryz.prog 28 #[.pointer (some ⟨w.heap.size + 3, 0, none⟩), .int .i64 1] (decW w a n cap p) fun e w' => e = Flt x ∧ Gro (w.heap.size + 3) (decW w a n cap p) w') := HV.out
    clear HV
    clear hrv
    go_enter_defers Tryz.func15, Tryz.ntmps15
    go_wp2_with fail
    refine Calls.mono HV2.out ?_
    rintro e1 w1 ⟨rfl, hg⟩
    obtain ⟨q0, q1, q2, hz⟩ := HBX.out w1 hg
    refine leaves_cons (f := 27) (args := #[.pointer (some ⟨w.heap.size, 0, none⟩), .pointer (some ⟨w.heap.size + 1, 0, none⟩), .pointer (some ⟨w.heap.size + 2, 0, none⟩)]) (by simp) (by simp [go_sem]) ?_
    refine (catch_panicking w.heap.size (w.heap.size + 1) (w.heap.size + 2) x.1 x.2 _ _ _ _ _ _ _ w1 (cells_at q0 0) (cells_at q0 1) (cells_at q0 2) (cells_at q0 3) (cells_at q0 4) (cells_at q1 0) (cells_at q2 0) (fun o => free_at q0 o) (free_at q1 0) (free_at q2 0) (by omega) (by omega) (by omega) (by omega) (by omega) (by omega)).mono ?_
    rintro e u' w'' ⟨rfl, rfl, hc⟩
    obtain ⟨r0, r1, r2, hbl⟩ := caught_end hc ⟨q0, q1, q2, HBW.out w1 hg⟩
    have k0 := cells_at r0 0
    have k1 := cells_at r0 1
    have k2 := cells_at r0 2
    have k3 := cells_at r0 3
    have k4 := cells_at r0 4
    have k5 := cells_at r1 0
    have k6 := cells_at r2 0
    simp only [List.getElem?_toArray, List.getElem?_cons_zero, List.getElem?_cons_succ] at k0 k1 k2 k3 k4 k5 k6
    refine ⟨.tuple #[.agg #[.int .i64 0, .int .u64 0, .string ⟨#[]⟩, .slice none 0 0, .int .i64 0], .int .i64 x.1, .int .i64 x.2], ?_, rfl, hbl⟩
    simp [results, Tryz.results15, go_sem, k0, k1, k2, k3, k4, k5, k6]
  | ok tq =>
    rw [hrv] at HV
    have HV2 : Hid (Calls Tryz.prog 28 #[.pointer (some ⟨w.heap.size + 3, 0, none⟩), .int .i64 1] (decW w a n cap p) fun e w' => GotV (w.heap.size + 3) a n cap p n (-1) (decW w a n cap p) tq e w' ∧ Gro (w.heap.size + 3) (decW w a n cap p) w') := HV.out
    clear HV hrv
    obtain ⟨t, q⟩ := tq
    simp only
    by_cases hlong : p + 1048576 < q
    · rw [if_pos hlong]
      go_enter_defers Tryz.func15, Tryz.ntmps15
      go_wp2_with fail
      refine Calls.mono HV2.out ?_
      rintro e1 w1 ⟨⟨y, rfl, HY⟩, hg⟩
      obtain ⟨q0, q1, q2, hz⟩ := HBX.out w1 hg
      have k0 := cells_at q0 0
      have k1 := cells_at q0 1
      have k2 := cells_at q0 2
      have k3 := cells_at q0 3
      have k4 := cells_at q0 4
      have z0 := free_at q0
      simp only [List.getElem?_toArray, List.getElem?_cons_zero, List.getElem?_cons_succ] at k0 k1 k2 k3 k4
      have hrb := HY.out.2.2.1
      obtain ⟨_, j1, _, _, _, _, _, hlt⟩ := hrb.cells
      have hqn : q ≤ n := HY.out.2.2.2.2
      have HT3 : Hid (Bx3 w w.heap.size w1 #[.int .i64 0, .int .u64 0, .string ⟨#[]⟩, .slice none 0 0, .int .i64 0] #[.int .i64 0] #[.int .i64 0]) := ⟨q0, q1, q2, HBW.out w1 hg⟩
      clear q0 q1 q2 hrb hg
      simp only at j1
      have HT4 := hide (((((HT3.out.s0 0 (.int .i64 y.k)).s0 1 (.int .u64 y.n)).s0 2 (.string y.s)).s0 3 (.slice y.a y.l.length y.c)).s0 4 (.int .i64 y.e))
      go_wp2
      refine ⟨rfl, ?_⟩
      obtain ⟨p0, p1, p2, pb⟩ := HT4.out
      have hz4 := HT4.out.lt
      simp only [List.setIfInBounds_toArray, List.set_cons_zero, List.set_cons_succ] at p0
      refine leaves_cons (f := 27) (args := #[.pointer (some ⟨w.heap.size, 0, none⟩), .pointer (some ⟨w.heap.size + 1, 0, none⟩), .pointer (some ⟨w.heap.size + 2, 0, none⟩)]) (by simp) (by simp [go_sem]) ?_
      refine (catch_panicking w.heap.size (w.heap.size + 1) (w.heap.size + 2) (p : Int) 2 _ _ _ _ _ _ _ _ (cells_at p0 0) (cells_at p0 1) (cells_at p0 2) (cells_at p0 3) (cells_at p0 4) (cells_at p1 0) (cells_at p2 0) (fun o => free_at p0 o) (free_at p1 0) (free_at p2 0) (by omega) (by omega) (by omega) (by omega) (by omega) (by omega)).mono ?_
      rintro e u' w'' ⟨rfl, rfl, hc⟩
      obtain ⟨r0, r1, r2, hbl⟩ := caught_end hc ⟨p0, p1, p2, pb⟩
      have m0 := cells_at r0 0
      have m1 := cells_at r0 1
      have m2 := cells_at r0 2
      have m3 := cells_at r0 3
      have m4 := cells_at r0 4
      have m5 := cells_at r1 0
      have m6 := cells_at r2 0
      simp only [List.getElem?_toArray, List.getElem?_cons_zero, List.getElem?_cons_succ] at m0 m1 m2 m3 m4 m5 m6
      refine ⟨.tuple #[.agg #[.int .i64 0, .int .u64 0, .string ⟨#[]⟩, .slice none 0 0, .int .i64 0], .int .i64 (p : Int), .int .i64 2], ?_, rfl, hbl⟩
      simp [results, Tryz.results15, go_sem, m0, m1, m2, m3, m4, m5, m6]
    · rw [if_neg hlong]
      go_enter_defers Tryz.func15, Tryz.ntmps15
      go_wp2_with fail
      refine Calls.mono HV2.out ?_
      rintro e1 w1 ⟨⟨y, rfl, HY⟩, hg⟩
      obtain ⟨q0, q1, q2, hz⟩ := HBX.out w1 hg
      have k0 := cells_at q0 0
      have k1 := cells_at q0 1
      have k2 := cells_at q0 2
      have k3 := cells_at q0 3
      have k4 := cells_at q0 4
      have z0 := free_at q0
      simp only [List.getElem?_toArray, List.getElem?_cons_zero, List.getElem?_cons_succ] at k0 k1 k2 k3 k4
      have hrb := HY.out.2.2.1
      obtain ⟨_, j1, _, _, _, _, _, hlt⟩ := hrb.cells
      have HRB := hide hrb
      have hqn : q ≤ n := HY.out.2.2.2.2
      have hpq : p ≤ q := HY.out.2.2.2.1
      have HT3 : Hid (Bx3 w w.heap.size w1 #[.int .i64 0, .int .u64 0, .string ⟨#[]⟩, .slice none 0 0, .int .i64 0] #[.int .i64 0] #[.int .i64 0]) := ⟨q0, q1, q2, HBW.out w1 hg⟩
      have HSZ : Hid (w.heap.size + 3 < w1.heap.size) := hz
      clear q0 q1 q2 hrb hg
      simp only at j1
      have HT4 := hide (((((HT3.out.s0 0 (.int .i64 y.k)).s0 1 (.int .u64 y.n)).s0 2 (.string y.s)).s0 3 (.slice y.a y.l.length y.c)).s0 4 (.int .i64 y.e))
      simp only [List.setIfInBounds_toArray, List.set_cons_zero, List.set_cons_succ] at HT4
      have HR4 : Hid (RB (((((w1.setCell ⟨w.heap.size, 0, none⟩ (.int .i64 y.k)).setCell ⟨w.heap.size, 1, none⟩ (.int .u64 y.n)).setCell ⟨w.heap.size, 2, none⟩ (.string y.s)).setCell ⟨w.heap.size, 3, none⟩ (.slice y.a y.l.length y.c)).setCell ⟨w.heap.size, 4, none⟩ (.int .i64 y.e)) (w.heap.size + 3) a n cap q n (-1)) := RB.over (RB.over (RB.over (RB.over (RB.over HRB.out (by omega) _ _) (by omega) _ _) (by omega) _ _) (by omega) _ _) (by omega) _ _
      have HK4 : Hid (∀ b o, b ≠ w.heap.size → (((((w1.setCell ⟨w.heap.size, 0, none⟩ (.int .i64 y.k)).setCell ⟨w.heap.size, 1, none⟩ (.int .u64 y.n)).setCell ⟨w.heap.size, 2, none⟩ (.string y.s)).setCell ⟨w.heap.size, 3, none⟩ (.slice y.a y.l.length y.c)).setCell ⟨w.heap.size, 4, none⟩ (.int .i64 y.e)).cell? ⟨b, o, none⟩ = w1.cell? ⟨b, o, none⟩) := fun b o hbn => (cell_over _ hbn).trans ((cell_over _ hbn).trans ((cell_over _ hbn).trans ((cell_over _ hbn).trans (cell_over _ hbn))))
      have hz4 : (((((w1.setCell ⟨w.heap.size, 0, none⟩ (.int .i64 y.k)).setCell ⟨w.heap.size, 1, none⟩ (.int .u64 y.n)).setCell ⟨w.heap.size, 2, none⟩ (.string y.s)).setCell ⟨w.heap.size, 3, none⟩ (.slice y.a y.l.length y.c)).setCell ⟨w.heap.size, 4, none⟩ (.int .i64 y.e)).heap.size = w1.heap.size := by simp
      have HZ4 := hide hz4
      clear hz4
      go_wp2
      generalize ((((w1.setCell ⟨w.heap.size, 0, none⟩ (.int .i64 y.k)).setCell ⟨w.heap.size, 1, none⟩ (.int .u64 y.n)).setCell ⟨w.heap.size, 2, none⟩ (.string y.s)).setCell ⟨w.heap.size, 3, none⟩ (.slice y.a y.l.length y.c)).setCell ⟨w.heap.size, 4, none⟩ (.int .i64 y.e) = W2 at HT4 HR4 HK4 HZ4 ⊢
      clear k0 k1 k2 k3 k4 j1 z0
      have k0 := cells_at HT4.out.h0 0
      have k1 := cells_at HT4.out.h0 1
      have k2 := cells_at HT4.out.h0 2
      have k3 := cells_at HT4.out.h0 3
      have k4 := cells_at HT4.out.h0 4
      have k5 := cells_at HT4.out.h1 0
      have k6 := cells_at HT4.out.h2 0
      have z0 := free_at HT4.out.h0
      have z1 := free_at HT4.out.h1 0
      have z2 := free_at HT4.out.h2 0
      have j1 := HR4.out.cells.2.1
      simp only [List.getElem?_toArray, List.getElem?_cons_zero, List.getElem?_cons_succ] at k0 k1 k2 k3 k4 k5 k6
      have hzz : w.heap.size + 3 < W2.heap.size := by have := HZ4.out; have := HSZ.out; omega
      have HT5 := hide (((((((HT4.out.s0 0 (.int .i64 y.k)).s0 1 (.int .u64 y.n)).s0 2 (.string y.s)).s0 3 (.slice y.a y.l.length y.c)).s0 4 (.int .i64 y.e)).s1 0 (.int .i64 (q : Int))).s2 0 (.int .i64 0)).dr
      simp only [List.setIfInBounds_toArray, List.set_cons_zero, List.set_cons_succ] at HT5
      have HK5 : Hid (∀ b, b ≠ w.heap.size → b ≠ w.heap.size + 1 → b ≠ w.heap.size + 2 → ((((((((W2.setCell ⟨w.heap.size, 0, none⟩ (.int .i64 y.k)).setCell ⟨w.heap.size, 1, none⟩ (.int .u64 y.n)).setCell ⟨w.heap.size, 2, none⟩ (.string y.s)).setCell ⟨w.heap.size, 3, none⟩ (.slice y.a y.l.length y.c)).setCell ⟨w.heap.size, 4, none⟩ (.int .i64 y.e)).setCell ⟨w.heap.size + 1, 0, none⟩ (.int .i64 (q : Int))).setCell ⟨w.heap.size + 2, 0, none⟩ (.int .i64 0)).drew).heap[b]? = W2.heap[b]?) := fun b h0 h1 h2 => seven_over h0 h1 h2 _ _ _ _ _ _ _
      have HZ5 := hide (seven_size W2 w.heap.size (.int .i64 y.k) (.int .u64 y.n) (.string y.s) (.slice y.a y.l.length y.c) (.int .i64 y.e) (.int .i64 (q : Int)) (.int .i64 0))
      go_region
      go_wp2
      generalize (((((((W2.setCell ⟨w.heap.size, 0, none⟩ (.int .i64 y.k)).setCell ⟨w.heap.size, 1, none⟩ (.int .u64 y.n)).setCell ⟨w.heap.size, 2, none⟩ (.string y.s)).setCell ⟨w.heap.size, 3, none⟩ (.slice y.a y.l.length y.c)).setCell ⟨w.heap.size, 4, none⟩ (.int .i64 y.e)).setCell ⟨w.heap.size + 1, 0, none⟩ (.int .i64 (q : Int))).setCell ⟨w.heap.size + 2, 0, none⟩ (.int .i64 0)).drew = W5 at HT5 HK5 HZ5 ⊢
      obtain ⟨p0, p1, p2, pb⟩ := HT5.out
      refine leaves_cons (f := 27) (args := #[.pointer (some ⟨w.heap.size, 0, none⟩), .pointer (some ⟨w.heap.size + 1, 0, none⟩), .pointer (some ⟨w.heap.size + 2, 0, none⟩)]) (by simp) (by simp [go_sem]) ?_
      refine (catch_idle _ _ _ _).mono ?_
      rintro e u' w'' ⟨rfl, rfl, rfl⟩
      have m0 := cells_at p0 0
      have m1 := cells_at p0 1
      have m2 := cells_at p0 2
      have m3 := cells_at p0 3
      have m4 := cells_at p0 4
      have m5 := cells_at p1 0
      have m6 := cells_at p2 0
      simp only [List.getElem?_toArray, List.getElem?_cons_zero, List.getElem?_cons_succ] at m0 m1 m2 m3 m4 m5 m6
      have hzf := HZ4.out
      obtain ⟨g1, g2, _, _, _⟩ := HY.out
      refine ⟨.tuple #[.agg #[.int .i64 y.k, .int .u64 y.n, .string y.s, .slice y.a y.l.length y.c, .int .i64 y.e], .int .i64 (q : Int), .int .i64 0], ?_, ⟨y, rfl, ⟨g1, g2.keep (fun b hb o => ?_) (fun b hb => ?_), hpq, hqn⟩⟩, pb⟩
      · simp only [results, Tryz.results15, go_sem]
        simp [go_sem, m0, m1, m2, m3, m4, m5, m6]
      · rw [decW_size] at hb
        exact (World.cell?_of_block (HK5.out b (by omega) (by omega) (by omega))).trans (HK4.out b o (by omega))
      · rw [decW_size] at hb
        have := HZ5.out
        omega
end Go.Proofs.YthhlpjhkeendcaaGreatDoor
