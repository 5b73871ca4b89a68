import Derived.Test.YtlpngpininkjnaaGreatDoorVCheckZ
import Derived.WalkLawsBesides
import Derived.Handy
import Derived.Outline
import Derived.Deep.QuietTactic
import Derived.BigQuiet

/- What fault says of three values. -/
namespace Go.Proofs.YtlpngpininkjnaaGreatDoor
open Go.RowKit
set_option linter.unusedVariables false

theorem bel_drewN {B : Nat} {w w1 : World} (h : Below B w w1) (n : Nat) : Below B w (w1.drewN n) := ⟨h.os, h.tape, h.output, h.size, h.block⟩

set_option maxRecDepth 100000 in
set_option maxHeartbeats 1000000 in
theorem extra_list (a : Option Addr) (c len : Nat) (w : World) (hl : len ≤ 281474976710656) :
    Calls Tryz.prog 59 #[.agg #[.int .i64 21, .int .u64 0, .string ⟨#[]⟩, .slice a len c, .int .i64 0]] w fun e w' => e = .returned (.bool false) ∧ Below w.heap.size w w' := by
  go_enter Tryz.func59, Tryz.ntmps59
  go_wp2
  go_quiet (fail)
  go_wp2
  go_ret
  exact ⟨rfl, bel_drewN (bel1 (Below.refl _ _) (Nat.le_refl _) _) _⟩

set_option maxRecDepth 100000 in
set_option maxHeartbeats 1000000 in
theorem extra_uint (a : Option Addr) (c : Nat) (w : World) :
    Calls Tryz.prog 59 #[.agg #[.int .i64 4, .int .u64 7, .string ⟨#[]⟩, .slice a 0 c, .int .i64 0]] w fun e w' => e = .returned (.bool false) ∧ Below w.heap.size w w' := by
  go_enter Tryz.func59, Tryz.ntmps59
  go_wp2
  go_quiet (fail)
  go_wp2
  go_ret
  exact ⟨rfl, bel_drewN (bel1 (Below.refl _ _) (Nat.le_refl _) _) _⟩

set_option maxRecDepth 100000 in
set_option maxHeartbeats 1000000 in
theorem extra_bool (a : Option Addr) (c : Nat) (w : World) :
    Calls Tryz.prog 59 #[.agg #[.int .i64 1, .int .u64 2, .string ⟨#[]⟩, .slice a 0 c, .int .i64 0]] w fun e w' => e = .returned (.bool false) ∧ Below w.heap.size w w' := by
  go_enter Tryz.func59, Tryz.ntmps59
  go_wp2
  go_quiet (fail)
  go_wp2
  go_ret
  exact ⟨rfl, bel_drewN (bel1 (Below.refl _ _) (Nat.le_refl _) _) _⟩

set_option maxRecDepth 100000 in
set_option maxHeartbeats 1000000 in
theorem fault_list (a : Option Addr) (c len : Nat) (w : World) (hl : len ≤ 281474976710656) :
    Calls Tryz.prog 24 #[.agg #[.int .i64 21, .int .u64 0, .string ⟨#[]⟩, .slice a len c, .int .i64 0], .int .i64 1] w fun e w' => e = .returned (.int .i64 0) ∧ Below w.heap.size w w' := by
  go_enter Tryz.func24, Tryz.ntmps24
  go_wp2_with fail
  refine (extra_list a c len _ (by omega)).mono ?_
  rintro e w1 ⟨rfl, hb1⟩
  have g : ∀ o, w1.cell? ⟨w.heap.size, o, none⟩ = (#[.int .i64 21, .int .u64 0, .string ⟨#[]⟩, .slice a len c, .int .i64 0] : Array Value)[o]? := fun o => by
    have := (hb1.block w.heap.size (by simp)).trans (World.alloc_heap_new _ _)
    simp [World.cell?, this]
  have k0 := g 0
  have k1 := g 1
  have k2 := g 2
  have k3 := g 3
  have k4 := g 4
  simp only [List.getElem?_toArray, List.getElem?_cons_zero, List.getElem?_cons_succ] at k0 k1 k2 k3 k4
  have hz : w.heap.size < w1.heap.size := by have := hb1.size; simp at this; omega
  clear g
  have HB1 := hide hb1
  clear hb1
  go_wp2
  go_ret
  have hbw := belOn (bel1 (Below.refl w.heap.size w) (Nat.le_refl _) _) (by simp) HB1.out
  first | exact ⟨rfl, bel2 hbw (by omega) _ _⟩ | exact ⟨rfl, bel1 hbw (by omega) _⟩

set_option maxRecDepth 100000 in
set_option maxHeartbeats 1000000 in
theorem fault_uint (a : Option Addr) (c : Nat) (w : World) :
    Calls Tryz.prog 24 #[.agg #[.int .i64 4, .int .u64 7, .string ⟨#[]⟩, .slice a 0 c, .int .i64 0], .int .i64 2] w fun e w' => e = .returned (.int .i64 0) ∧ Below w.heap.size w w' := by
  go_enter Tryz.func24, Tryz.ntmps24
  go_wp2_with fail
  refine (extra_uint a c _).mono ?_
  rintro e w1 ⟨rfl, hb1⟩
  have g : ∀ o, w1.cell? ⟨w.heap.size, o, none⟩ = (#[.int .i64 4, .int .u64 7, .string ⟨#[]⟩, .slice a 0 c, .int .i64 0] : Array Value)[o]? := fun o => by
    have := (hb1.block w.heap.size (by simp)).trans (World.alloc_heap_new _ _)
    simp [World.cell?, this]
  have k0 := g 0
  have k1 := g 1
  have k2 := g 2
  have k3 := g 3
  have k4 := g 4
  simp only [List.getElem?_toArray, List.getElem?_cons_zero, List.getElem?_cons_succ] at k0 k1 k2 k3 k4
  have hz : w.heap.size < w1.heap.size := by have := hb1.size; simp at this; omega
  clear g
  have HB1 := hide hb1
  clear hb1
  go_wp2
  go_ret
  have hbw := belOn (bel1 (Below.refl w.heap.size w) (Nat.le_refl _) _) (by simp) HB1.out
  first | exact ⟨rfl, bel2 hbw (by omega) _ _⟩ | exact ⟨rfl, bel1 hbw (by omega) _⟩

set_option maxRecDepth 100000 in
set_option maxHeartbeats 1000000 in
theorem fault_bool (a : Option Addr) (c : Nat) (w : World) :
    Calls Tryz.prog 24 #[.agg #[.int .i64 1, .int .u64 2, .string ⟨#[]⟩, .slice a 0 c, .int .i64 0], .int .i64 1] w fun e w' => e = .returned (.int .i64 21) ∧ Below w.heap.size w w' := by
  go_enter Tryz.func24, Tryz.ntmps24
  go_wp2_with fail
  refine (extra_bool a c _).mono ?_
  rintro e w1 ⟨rfl, hb1⟩
  have g : ∀ o, w1.cell? ⟨w.heap.size, o, none⟩ = (#[.int .i64 1, .int .u64 2, .string ⟨#[]⟩, .slice a 0 c, .int .i64 0] : Array Value)[o]? := fun o => by
    have := (hb1.block w.heap.size (by simp)).trans (World.alloc_heap_new _ _)
    simp [World.cell?, this]
  have k0 := g 0
  have k1 := g 1
  have k2 := g 2
  have k3 := g 3
  have k4 := g 4
  simp only [List.getElem?_toArray, List.getElem?_cons_zero, List.getElem?_cons_succ] at k0 k1 k2 k3 k4
  have hz : w.heap.size < w1.heap.size := by have := hb1.size; simp at this; omega
  clear g
  have HB1 := hide hb1
  clear hb1
  go_wp2
  go_ret
  have hbw := belOn (bel1 (Below.refl w.heap.size w) (Nat.le_refl _) _) (by simp) HB1.out
  first | exact ⟨rfl, bel2 hbw (by omega) _ _⟩ | exact ⟨rfl, bel1 hbw (by omega) _⟩
end Go.Proofs.YtlpngpininkjnaaGreatDoor
