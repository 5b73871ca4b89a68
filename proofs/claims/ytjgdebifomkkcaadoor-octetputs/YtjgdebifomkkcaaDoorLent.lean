/- longshorelaw01's lent, same, back: their contracts. -/
import Derived.Test.YtjgdebifomkkcaaDoorPut
import Derived.Laws.CopyOwn
import Derived.BigQuiet
import Derived.Deep.QuietTactic
import Derived.OwnWalk
namespace Go.Proofs.YtjgdebifomkkcaaDoor
open Go.RowKit
set_option linter.unusedVariables false

theorem Rd.of_rowl {w : World} {b n m : Nat} {t : TypeId} {l : List Nat} (h : w.rowIs b t m (fun i => .int .u8 ((l.getD i 0 : Nat) : Int))) (hn : n ≤ m) (hl : n ≤ l.length) (hb : ∀ c ∈ l, c < 256) : Rd w (some ⟨b, 0, none⟩) n (l.take n) := by
  refine ⟨by simp; omega, fun c hc => hb c (List.mem_of_mem_take hc), fun _ => ⟨b, 0, rfl, h.lt, fun j hj => ?_⟩⟩
  have := h.cell (show j < m by omega)
  simp only [Nat.zero_add]
  rw [this]
  simp [List.getD_eq_getElem?_getD, hj]

def byteV (c : Nat) : Value := .int .u8 (c : Int)
theorem made_list (n : Nat) : madeCells #[Value.int .u8 0] n = (List.replicate n (byteV 0)).toArray := by
  apply Array.toList_inj.1
  rw [toList_madeCells_one]
  rfl
theorem splice_get (n : Nat) (l : List Nat) (h : l.length = n) (i : Nat) (hi : i < n + 2) :
    (splice (List.replicate (n + 2) (byteV 0)) 0 (l.map byteV)).toArray[i]? = some (byteV (l.getD i 0)) := by
  simp only [splice, List.take_zero, List.nil_append, Nat.zero_add, List.length_map, List.getElem?_toArray]
  by_cases hin : i < n
  · rw [List.getElem?_append_left (by simp; omega), List.getElem?_map, List.getElem?_eq_getElem (by omega)]
    simp [List.getD_eq_getElem?_getD, List.getElem?_eq_getElem (show i < l.length by omega)]
  · rw [List.getElem?_append_right (by simp; omega), List.getElem?_drop, List.getElem?_replicate, if_pos (by simp; omega)]
    simp [List.getD_eq_getElem?_getD, List.getElem?_eq_none (show l.length ≤ i by omega)]

theorem splice_row {w1 : World} {g n : Nat} {l : List Nat} {t : TypeId} (hl : l.length = n) (h : w1.heap[g]? = some (.cells (splice (List.replicate (n + 2) (byteV 0)) 0 (l.map byteV)).toArray t (0, 0))) :
    w1.rowIs g t (n + 2) (fun i => byteV (l.getD i 0)) :=
  ⟨_, h, by simp [splice]; omega, fun i hi => splice_get n l hl i hi⟩
theorem lent_row {w1 : World} {g n : Nat} {l : List Nat} {t : TypeId} (h : w1.rowIs g t (n + 2) (fun i => byteV (l.getD i 0))) (hl : l.length = n) :
    ((w1.setCell ⟨g, n, none⟩ (.int .u8 71)).setCell ⟨g, n + 1, none⟩ (.int .u8 72)).rowIs g t (n + 2) (fun i => .int .u8 (((l ++ [71, 72]).getD i 0 : Nat) : Int)) := by
  refine ((h.set n _).set (n + 1) _).congr fun i hi => ?_
  by_cases h1 : i = n + 1
  · subst h1
    simp [List.getD_eq_getElem?_getD, ← hl]
  · by_cases h2 : i = n
    · subst h2
      simp [List.getD_eq_getElem?_getD, ← hl]
    · rw [if_neg h1, if_neg h2]
      simp only [byteV, List.getD_eq_getElem?_getD]
      rw [List.getElem?_append_left (by omega)]

theorem alloc_made (w : World) (n : Nat) (t : TypeId) : (w.alloc (.cells (madeCells #[Value.int .u8 0] n) t)).heap[w.heap.size]? = some (.cells (List.replicate n (byteV 0)).toArray t (0, 0)) := by
  rw [made_list]; exact heap_alloc_new _ _
theorem oneCell_bytes (l : List Nat) : ∀ v ∈ l.map byteV, v.oneCell' = true := by
  intro v hv
  obtain ⟨c, _, rfl⟩ := List.mem_map.1 hv
  rfl
theorem copy_src {w : World} {a : Option Addr} {n : Nat} {l : List Nat} (h : Rd w a n l) (o : Obj) (hp : 0 < (l.map byteV).length) :
    ∃ ad, a = some ad ∧ ∀ j v, (l.map byteV)[j]? = some v → (w.alloc o).cell? (ad.add j) = some v := by
  have hl := h.1
  have hn0 : 0 < n := by simpa [hl] using hp
  obtain ⟨b, off, ha, hlt, hc⟩ := h.2.2 hn0
  refine ⟨⟨b, off, none⟩, ha, fun j v hj => ?_⟩
  have hjn : j < n := by
    have := (List.getElem?_eq_some_iff.1 hj).1
    simpa [hl] using this
  rw [add_none, World.cell?_alloc_past _ _ _ hlt, hc j hjn]
  rw [List.getElem?_map, List.getElem?_eq_getElem (by omega)] at hj
  simp only [Option.map_some, Option.some.injEq] at hj
  rw [← hj, List.getD_eq_getElem?_getD, List.getElem?_eq_getElem (by omega)]
  rfl
theorem Tryd.size5 : (Tryd.prog.info? 5).map (·.size) = some 1 := by kernel_rfl
set_option maxHeartbeats 1000000 in
theorem lent_any (a : Option Addr) (n cap : Nat) (l : List Nat) (w : World) (hr : Rd w a n l) (hn : n ≤ 140737488355328) :
    Calls Tryd.prog 14 #[.slice a n cap] w fun e w' => e = .returned (.tuple #[.slice (some ⟨w.heap.size, 0, none⟩) n (n + 2), .slice (some ⟨w.heap.size, 0, none⟩) (n + 2) (n + 2)]) ∧
      w'.rowIs w.heap.size 5 (n + 2) (fun i => .int .u8 (((l ++ [71, 72]).getD i 0 : Nat) : Int)) ∧ Below w.heap.size w w' := by
  have hmk := run_make_row' (P := Tryd.prog) 24 5 (.int .u8 0) 1 Tryd.underlying24 Tryd.info5 rfl .i64 .i64 (n + 2) (by omega) (by omega)
  rw [show ((n + 2 : Nat) : Int) = (n : Int) + 2 by omega] at hmk
  have HR := hide hr
  have hb0 : Below w.heap.size w (w.alloc (.cells (madeCells #[.int .u8 0] (n + 2)) 5)) := (Below.refl _ _).alloc (Nat.le_refl _) _
  have hl := hr.1
  clear hr
  go_enter Tryd.func14, Tryd.ntmps14
  go_wp2_with ((refine wpList_copy_splice rfl (.tmp 11) (.tmp 12) 24 24 rfl 5 Tryd.underlying24 Tryd.size5 _ _ _ _ _ _ rfl rfl w.heap.size 0 (List.replicate (n + 2) (byteV 0)) 5 (alloc_made w (n + 2) _) (l.map byteV) (by simp [hl]) (fun hp => ⟨rfl, copy_src HR.out _ hp⟩) (by simp [hl]) (oneCell_bytes l) w.heap.size w hb0 (Nat.le_refl _) ?_); intro w1 HG hb1; have hrow := splice_row hl HG.out; have hc1 := hrow.cell (show n < n + 2 by omega); have hf1 := hrow.frozen n; have hc2 := hrow.cell (show n + 1 < n + 2 by omega); have hf2 := hrow.frozen (n + 1); have HW := hide hrow; clear hrow)
  go_ret2
  exact ⟨rfl, lent_row HW.out hl, (hb1.setCell (Nat.le_refl _) _).setCell (Nat.le_refl _) _⟩

set_option maxHeartbeats 1000000 in
/-- same says yes of two lists that read alike -/
theorem same_eq (a b : Option Addr) (n ca cb : Nat) (l : List Nat) (w : World) (ha : Rd w a n l) (hb : Rd w b n l) (hn : n ≤ 281474976710656) :
    Calls Tryd.prog 11 #[.slice a n ca, .slice b n cb] w fun e w' => e = .returned (.bool true) ∧ ∃ nq, w' = w.drewN nq := by
  have HA := hide ha
  have HB := hide hb
  clear ha hb
  go_enter Tryd.func11, Tryd.ntmps11
  go_wp2
  go_loopw [5] (fun i wr => ∃ k : Nat, k ≤ n ∧ i = .int .i64 k ∧ ∃ nq, wr = w.drewN nq) (fun i _ => n - (intOf i).toNat)
  case atStart => exact ⟨0, Nat.zero_le _, rfl, 0, rfl⟩
  case round =>
    obtain ⟨k, hk, rfl, nq, rfl⟩ := hrel
    by_cases hkn : k < n
    · obtain ⟨b1, o1, rfl, hl1, hc1⟩ := HA.out.2.2 (by omega)
      obtain ⟨b2, o2, rfl, hl2, hc2⟩ := HB.out.2.2 (by omega)
      have g1 := hc1 k hkn
      have g2 := hc2 k hkn
      have hkn' : (k : Int) < (n : Int) := by omega
      clear hc1 hc2
      generalize l.getD k 0 = y at *
      go_wp2
      go_quiet (fail)
      go_wp2
      go_roundw
      case rel => exact ⟨k + 1, by omega, by go_num, _, rfl⟩
      case measure => simp [intOf]; omega
    · go_wp2
      go_ret
      exact ⟨rfl, _, rfl⟩
theorem below_draws {w : World} (n : Nat) : Below w.heap.size w (w.drewN n) := below_drewN (Below.refl _ _) n
end Go.Proofs.YtjgdebifomkkcaaDoor
