/- CRd -/
import Derived.Test.YthhlpjhkeendcaaGreatDoorS15
import Derived.Test.YthhlpjhkeendcaaGreatDoorS23
import Derived.Deep.RegionHeldLaw
namespace Go.Proofs.YthhlpjhkeendcaaGreatDoor
open Go.RowKit
set_option linter.unusedVariables false
set_option linter.unusedSimpArgs false
def Rd (w : World) (a : Option Addr) (n : Nat) (l : List Nat) : Prop :=
  l.length = n ∧ (∀ c ∈ l, c < 256) ∧ (0 < n → ∃ b off, a = some ⟨b, off, none⟩ ∧ b < w.heap.size ∧ ∀ j, j < n → w.cell? ⟨b, off + j, none⟩ = some (.int .u8 ((l.getD j 0 : Nat) : Int)))
theorem take_snocN (l : List Nat) (k : Nat) (h : k < l.length) : l.take (k + 1) = l.take k ++ [l.getD k 0] := by
  rw [List.take_succ_eq_append_getElem h, List.getD_eq_getElem?_getD, List.getElem?_eq_getElem h]; rfl
structure Src (w : World) (R : Nat) (a : Option Addr) (n cap : Nat) (l : List Nat) : Prop where
  rd : Rd w a n l
  room : n ≤ cap
  small : n ≤ 281474976710656
  apart : 0 < n → ∀ x, a = some x → x.block < R
  tab : SzTab w
  utf : Lib.Utf8Tabs 1 2 w
  pos : 3 ≤ R
theorem Src.gro {w w' : World} {R : Nat} {a : Option Addr} {n cap : Nat} {l : List Nat} (h : Src w R a n cap l) (hg : Gro R w w') : Src w' R a n cap l := by
  have hp := h.pos
  refine ⟨⟨h.rd.1, h.rd.2.1, fun hn => ?_⟩, h.room, h.small, h.apart, h.tab.gro hg (by omega), ?_, h.pos⟩
  · obtain ⟨b, off, ha, hb, hc⟩ := h.rd.2.2 hn
    have hne : b < R := h.apart hn _ ha
    exact ⟨b, off, ha, Nat.lt_of_lt_of_le hb hg.size, fun j hj => (World.cell?_of_block (hg.block b hb (by simp; omega))).trans (hc j hj)⟩
  · obtain ⟨h1, h2⟩ := h.utf
    have l0 := block_lt_of_cell (h1 0 (by omega))
    have l1 := block_lt_of_cell (h2 0 (by omega)).1
    have e0 := hg.block 1 l0 (by simp; omega)
    have e1 := hg.block 2 l1 (by simp; omega)
    exact ⟨fun c hc => (World.cell?_of_block e0).trans (h1 c hc), fun i hi => ⟨(World.cell?_of_block e1).trans (h2 i hi).1, (World.cell?_of_block e1).trans (h2 i hi).2⟩⟩
def RB (w : World) (R : Nat) (a : Option Addr) (n cap p fin : Nat) (sz : Int) : Prop := w.heap[R]? = some (.cells #[.slice a n cap, .int .i64 (p : Int), .int .i64 (fin : Int), .int .i64 sz] 59)
theorem RB.cells {w : World} {R : Nat} {a : Option Addr} {n cap p fin : Nat} {sz : Int} (h : RB w R a n cap p fin sz) : w.cell? ⟨R, 0, none⟩ = some (.slice a n cap) ∧ w.cell? ⟨R, 1, none⟩ = some (.int .i64 (p : Int)) ∧ w.cell? ⟨R, 2, none⟩ = some (.int .i64 (fin : Int)) ∧ w.cell? ⟨R, 3, none⟩ = some (.int .i64 sz) ∧ w.frozen? ⟨R, 1, none⟩ = false ∧ w.frozen? ⟨R, 2, none⟩ = false ∧ w.frozen? ⟨R, 3, none⟩ = false ∧ R < w.heap.size := by
  unfold RB at h
  refine ⟨by simp [World.cell?, h], by simp [World.cell?, h], by simp [World.cell?, h], by simp [World.cell?, h], by simp [World.frozen?, h], by simp [World.frozen?, h], by simp [World.frozen?, h], (Array.getElem?_eq_some_iff.1 h).1⟩
theorem RB.keep {w w' : World} {R : Nat} {a : Option Addr} {n cap p fin : Nat} {sz : Int} (h : RB w R a n cap p fin sz) (hb : Below w.heap.size w w') : RB w' R a n cap p fin sz := (hb.block R h.cells.2.2.2.2.2.2.2).trans h
theorem RB.set1 {w : World} {R : Nat} {a : Option Addr} {n cap p fin : Nat} {sz : Int} (h : RB w R a n cap p fin sz) (q : Nat) : RB (w.setCell ⟨R, 1, none⟩ (.int .i64 (q : Int))) R a n cap q fin sz := by
  unfold RB at h ⊢
  simp [World.setCell, Array.getElem?_modify, h]
theorem Gro.set {g : Nat} {a b : World} (h : Gro g a b) (o : Nat) (u : Value) : Gro g a (b.setCell ⟨g, o, none⟩ u) :=
  ⟨h.os, h.tape, h.output, by simpa using h.size, fun q hq hne => (Below.heap_setCell _ _ _ _ (by intro e; exact hne (by rw [e]))).trans (h.block q hq hne)⟩
def Flt (x : Int × Int) : Ending := .panicked [{ v := .iface 57 (.agg #[.int .i64 x.1, .int .i64 x.2]), recovered := false }]
def Outc {α : Type} (r : Res α) (R : Nat) (w : World) (K : α → Ending → World → Prop) (e : Ending) (w' : World) : Prop :=
  match r with
  | .error x => e = Flt x ∧ Gro R w w'
  | .ok v => K v e w' ∧ Gro R w w'
set_option maxHeartbeats 1000000 in
theorem need_any (R : Nat) (a : Option Addr) (n cap p fin m : Nat) (sz : Int) (w : World) (hr : RB w R a n cap p fin sz) (hp : p ≤ fin) (hfin : fin ≤ n) (hn : n ≤ 281474976710656) (hm : m ≤ 281474976710656) :
    Calls Tryz.prog 66 #[.pointer (some ⟨R, 0, none⟩), .int .i64 (m : Int)] w fun e w' => (p + m ≤ fin → e = .returned (.tuple #[])) ∧ (¬ p + m ≤ fin → e = Flt (shortC n sz)) ∧ (w' = w.drew) := by
  obtain ⟨c0, c1, c2, c3, _, _, _, hlt⟩ := hr.cells
  have hw : IntKind.i64.wrap ((fin : Int) - (p : Int)) = (fin : Int) - p := by
    have : (fin : Int) - (p : Int) = ((fin - p : Nat) : Int) := by omega
    rw [this]
    exact wrap_nat _ (by omega)
  by_cases hok : p + m ≤ fin
  · have hd : decide ((m : Int) ≤ IntKind.i64.wrap ((fin : Int) - (p : Int))) = true := by rw [hw]; simp; omega
    clear hw
    go_enter Tryz.func66, Tryz.ntmps66
    go_wp2
    go_region_held (fun W1 => W1.cell? ⟨R, 1, none⟩ = some (.int .i64 (p : Int)) ∧ W1.cell? ⟨R, 2, none⟩ = some (.int .i64 (fin : Int))) (go_keep) (fail)
    go_wp2
    first | go_end0 | refine bodyPost_ret (results_none rfl _ _ _) rfl ?_
    exact ⟨fun _ => rfl, fun h => absurd hok h, rfl⟩
  · have hd : decide ((m : Int) ≤ IntKind.i64.wrap ((fin : Int) - (p : Int))) = false := by rw [hw]; simp; omega
    clear hw
    by_cases hs : sz = -1
    · subst hs
      go_enter Tryz.func66, Tryz.ntmps66
      go_wp2
      go_region_held (fun W1 => W1.cell? ⟨R, 1, none⟩ = some (.int .i64 (p : Int)) ∧ W1.cell? ⟨R, 2, none⟩ = some (.int .i64 (fin : Int))) (go_keep) (fail)
      go_wp2
      exact ⟨rfl, rfl, fun h => absurd h hok, fun _ => by simp [Flt, shortC], rfl⟩
    · have hs' : (sz == -1) = false := by rw [beq_eq_false_iff_ne]; exact hs
      go_enter Tryz.func66, Tryz.ntmps66
      go_wp2
      go_region_held (fun W1 => W1.cell? ⟨R, 1, none⟩ = some (.int .i64 (p : Int)) ∧ W1.cell? ⟨R, 2, none⟩ = some (.int .i64 (fin : Int))) (go_keep) (fail)
      go_wp2
      exact ⟨rfl, rfl, fun h => absurd h hok, fun _ => by simp [Flt, shortC, hs], rfl⟩
end Go.Proofs.YthhlpjhkeendcaaGreatDoor
