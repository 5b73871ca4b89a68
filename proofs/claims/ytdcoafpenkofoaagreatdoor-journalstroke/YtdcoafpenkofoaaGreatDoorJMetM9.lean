import Derived.Test.YtdcoafpenkofoaaGreatDoorJWhAM9
import Derived.Test.YtdcoafpenkofoaaGreatDoorJAsNM9
import Derived.Test.YtdcoafpenkofoaaGreatDoorDLawSM9

/- Stage 20: errors, and the numbers that they wrap. -/
namespace Go.Proofs.YtdcoafpenkofoaaGreatDoor
open Go.RowKit
set_option linter.unusedVariables false
set_option linter.unusedSimpArgs false
/-- an answer as an error -/
def amV (n : Int) : Value := if n = 0 then .nilIface else nB n
theorem amiss_any (n : Int) (w : World) : Calls Tryz.prog 91 #[.int .i64 n] w fun e w' => e = .returned (amV n) ∧ w' = w := by
  unfold amV nB
  by_cases h : n = 0
  · subst h
    go_enter Tryz.func91, Tryz.ntmps91
    go_wp2
    go_ret
    exact ⟨rfl, rfl⟩
  · have hn : (n == 0) = false := beq_eq_false_iff_ne.2 h
    rw [if_neg h]
    clear h
    go_enter Tryz.func91, Tryz.ntmps91
    go_wp2
    go_ret
    exact ⟨rfl, rfl⟩
theorem as_num (n : Int) (w W : World) (hT : Er w) (hW : W = w.alloc (.cells #[.int .i64 0] 82)) : Calls Tryz.prog 78 #[.iface 82 (.int .i64 n), .iface 155 (.pointer (some ⟨w.heap.size, 0, none⟩))] W fun e w' => e = .returned (.bool true) ∧ Hid (Below w.heap.size w w') ∧ w'.cell? ⟨w.heap.size, 0, none⟩ = some (.int .i64 n) := by
  subst hW
  have h1 : w.heap[0]?.isSome := by
    have := block_lt_of_cell hT
    simp [this]
  refine (AsN.as_hit n ⟨w.heap.size, 0, none⟩ (.int .i64 0) _ (hT.below (bel1 (Below.refl _ _) (Nat.le_refl _) _)) (cellOf (heap_new _ _) 0 _ rfl) (frozen_new _ _ _)).mono ?_
  rintro e w' ⟨rfl, rfl⟩
  refine ⟨rfl, ?_, ?_⟩
  · exact Below.setCell (bel1 (bel1 (bel1 (bel1 (bel1 (Below.refl _ _) (Nat.le_refl _) _) (by simp only [World.size_alloc]; omega) _) (by simp only [World.size_alloc]; omega) _) (by simp only [World.size_alloc]; omega) _) (by simp only [World.size_alloc]; omega) _) (Nat.le_refl _) _
  · refine cell_set (v0 := .int .i64 0) (t := 82) (f := (0, 0)) ?_ _
    exact heap_past (heap_past (heap_past (heap_past (heap_new _ _) _) _) _) _
theorem errnoOf_any (n : Int) (w : World) (hT : Er w) : Calls Tryz.prog 56 #[amV n] w fun e w' => e = .returned (.int .i64 n) ∧ Below w.heap.size w w' := by
  unfold amV nB
  by_cases h : n = 0
  · subst h
    have HN := hide (fun W => AsN.as_nil (.iface 155 (.pointer (some ⟨w.heap.size, 0, none⟩))) W)
    go_enter Tryz.func56, Tryz.ntmps56
    go_wp2_with (go_at_call 78; refine (HN.out _).mono ?_; rintro e w' ⟨rfl, rfl⟩)
    go_ret
    exact ⟨rfl, bel1 (Below.refl _ _) (Nat.le_refl _) _⟩
  · rw [if_neg h]
    have HN := hide (as_num n w _ hT rfl)
    clear h
    go_enter Tryz.func56, Tryz.ntmps56
    go_wp2_with (go_at_call 78; refine HN.out.mono ?_; rintro e w' ⟨rfl, HB, hc⟩)
    go_ret
    exact ⟨rfl, HB.out⟩
end Go.Proofs.YtdcoafpenkofoaaGreatDoor


/- Stage 20: a journal as it lies; write, clearNew. -/
namespace Go.Proofs.YtdcoafpenkofoaaGreatDoor
open Go.RowKit Go.Maps Go.MuLone
set_option linter.unusedVariables false
set_option linter.unusedSimpArgs false
def jrA (d : Nat) (sz : Int) (tl : Bool) : Array Value := #[.pointer (some ⟨d, 0, none⟩), .int .i64 sz, .bool tl]
/-- a journal at j over a disk at d, both made since w -/
structure JS (S : Nat → Prop) (w wi : World) (d j : Nat) (x : Dx) (F : List Fi) (sz : Int) (tl : Bool) : Prop where
  aw : AW S w wi d x F
  nj : ¬ S j
  lo : w.heap.size ≤ j
  blk : wi.heap[j]? = some (.cells (jrA d sz tl) 114 (0, 0))
section
variable {S : Nat → Prop} {w wi w' : World} {d j : Nat} {x x' : Dx} {F F' : List Fi} {sz : Int} {tl : Bool}
theorem JS.lt (h : JS S w wi d j x F sz tl) : j < wi.heap.size := (Array.getElem?_eq_some_iff.1 h.blk).1
/-- behind a call of the disk's -/
theorem JS.nx (h : JS S w wi d j x F sz tl) (hN : Nx S w wi d x' F' w') : ∃ S', (∀ k, S' k → S k ∨ wi.heap.size ≤ k) ∧ JS S' w w' d j x' F' sz tl ∧ Kp S wi w' := by
  obtain ⟨S', h1, h2, h3⟩ := hN
  exact ⟨S', h1, ⟨h2, fun hs => (h1 j hs).elim h.nj (fun hj => by have := h.lt; omega), h.lo, (h3.block h.lt h.nj).trans h.blk⟩, h3⟩
theorem JS.below (h : JS S w wi d j x F sz tl) (hb : Below wi.heap.size wi w') : JS S w w' d j x F sz tl := ⟨h.aw.below hb, h.nj, h.lo, (hb.block j h.lt).trans h.blk⟩
theorem JS.read (h : JS S w wi d j x F sz tl) (h1 : AW S w w' d x F) (hk : Kp S wi w') : JS S w w' d j x F sz tl := ⟨h1, h.nj, h.lo, (hk.block h.lt h.nj).trans h.blk⟩
theorem JS.cells (h : JS S w wi d j x F sz tl) : wi.cell? ⟨j, 0, none⟩ = some (.pointer (some ⟨d, 0, none⟩)) ∧ wi.cell? ⟨j, 1, none⟩ = some (.int .i64 sz) ∧ wi.cell? ⟨j, 2, none⟩ = some (.bool tl) ∧ ∀ o, wi.frozen? ⟨j, o, none⟩ = false :=
  ⟨cellOf h.blk 0 _ rfl, cellOf h.blk 1 _ rfl, cellOf h.blk 2 _ rfl, fun o => frozen_ofJ h.blk o⟩
theorem JS.setSize (h : JS S w wi d j x F sz tl) (n : Int) : JS S w (wi.setCell ⟨j, 1, none⟩ (.int .i64 n)) d j x F n tl := by
  refine ⟨⟨fun k hk => by have := h.aw.at_ k hk; simpa using this, ⟨h.aw.dd.dsk.keepB (fun k hk => blk_set_other _ _ _ _ (fun e => h.nj (by rw [show j = k from e.symm]; exact hk))), h.aw.dd.lk, h.aw.dd.ok⟩, h.aw.bel.setCell h.lo _⟩, h.nj, h.lo, ?_⟩
  rw [blk_set h.blk]
  rfl
end
abbrev kG : ByteArray := ⟨#[108, 111, 103]⟩
abbrev kN : ByteArray := ⟨#[108, 111, 103, 46, 110, 101, 119]⟩
/-- write: the error's number, the disk behind it -/
def jWr (x : Dx) (F : List Fi) (k : ByteArray) (t : List Nat) : Int × Dx × List Fi :=
  if (dApp x F k t).1 ≠ 0 then dApp x F k t else dSync (dApp x F k t).2.1 (dApp x F k t).2.2 k
set_option maxHeartbeats 2000000 in
theorem write_any (S : Nat → Prop) (w wi : World) (d j : Nat) (x : Dx) (F : List Fi) (sz : Int) (tl : Bool) (h : JS S w wi d j x F sz tl) (k : ByteArray) (u : Value) (t : List Nat) (hr : Rb wi u t) (hn : F.length + 1 ≤ maxLen) :
    Calls Tryz.prog 110 #[.pointer (some ⟨j, 0, none⟩), .string k, u] wi fun e w' => e = .returned (amV (jWr x F k t).1) ∧ ∃ S', (∀ q, S' q → S q ∨ wi.heap.size ≤ q) ∧ JS S' w w' d j (jWr x F k t).2.1 (jWr x F k t).2.2 sz tl ∧ Kp S wi w' := by
  obtain ⟨c0, _, _, _⟩ := h.cells
  have HA := hide (aw_append h.aw k u t hr hn)
  have HJ := hide h
  obtain ⟨a, c, rfl, _⟩ := hr
  clear h
  go_enter Tryz.func110, Tryz.ntmps110
  go_wp2_with fail
  refine HA.out.mono ?_
  rintro e w1 ⟨rfl, hN⟩
  obtain ⟨S1, hS1, hJ1, hK1⟩ := HJ.out.nx hN
  obtain ⟨c1, _, _, _⟩ := hJ1.cells
  have HJ1 := hide (And.intro hS1 (And.intro hJ1 hK1))
  by_cases h0 : (dApp x F k t).1 = 0
  · have HS := hide (aw_sync hJ1.aw k)
    have HQ : Hid (jWr x F k t = dSync (dApp x F k t).2.1 (dApp x F k t).2.2 k) := if_neg (by simpa using h0)
    rw [h0]
    clear h0 hS1 hJ1 hK1 hN
    go_wp2_with (first | (go_at_call 92; refine HS.out.mono ?_; rintro e w2 ⟨rfl, hN2⟩; obtain ⟨S2, hS2, hJ2, hK2⟩ := HJ1.out.2.1.nx hN2; have HJ2 := hide (And.intro hS2 (And.intro hJ2 hK2)); clear hS2 hJ2 hK2 hN2) | (go_at_call 91; refine (amiss_any _ _).mono ?_; rintro e w3 ⟨rfl, rfl⟩))
    go_ret
    rw [HQ.out]
    refine ⟨rfl, S2, fun q hq => ?_, HJ2.out.2.1, HJ1.out.2.2.transN HJ2.out.2.2 (fun q hq => HJ1.out.1 q hq)⟩
    rcases HJ2.out.1 q hq with h | h
    · exact HJ1.out.1 q h
    · exact .inr (Nat.le_trans HJ1.out.2.2.size h)
  · have hne : ((dApp x F k t).1 == 0) = false := beq_eq_false_iff_ne.2 h0
    have hne2 : ((dApp x F k t).1 != 0) = true := by simpa using h0
    have HQ : Hid (jWr x F k t = dApp x F k t) := if_pos h0
    have HA0 : Hid (amV (dApp x F k t).1 = .iface 82 (.int .i64 (dApp x F k t).1)) := if_neg h0
    obtain ⟨n, hn0⟩ : ∃ n, (dApp x F k t).1 = n := ⟨_, rfl⟩
    rw [hn0] at hne hne2 HA0 ⊢
    have HN0 := hide hn0
    clear h0 hS1 hJ1 hK1 hN hn0
    go_wp2
    go_ret
    rw [HQ.out, HN0.out, HA0.out]
    exact ⟨rfl, S1, HJ1.out⟩
end Go.Proofs.YtdcoafpenkofoaaGreatDoor
