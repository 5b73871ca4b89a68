
/- Stage 20: LentBytes of longshoreref03. -/
import Derived.Test.YtgkdecjlanbmhaaDLawS
import Derived.Test.YtgkdecjlanbmhaaDLaw
import Derived.Laws.CopyOwn
import Derived.OwnWalk
import Derived.Deep.OwnRows
namespace Go.Proofs.Ytgkdecjlanbmhaa
open Go.RowKit
set_option linter.unusedVariables false
set_option linter.unusedSimpArgs false
theorem add_none (b off j : Nat) : (⟨b, off, none⟩ : Addr).add j = ⟨b, off + j, none⟩ := by
  by_cases h : j = 0 <;> simp [Addr.add, h]
def bW (c : Nat) : Value := .int .u8 (c : Int)
/-- the bytes behind what is lent -/
abbrev lnM : List Nat := [200, 201, 202, 203, 204, 205, 206, 207, 208]
theorem made_listQ (n : Nat) : madeCells #[Value.int .u8 0] n = (List.replicate n (bW 0)).toArray := by
  apply Array.toList_inj.1
  rw [toList_madeCells_one]
  rfl
theorem splice_getQ (n m : Nat) (l : List Nat) (h : l.length = n) (i : Nat) (hi : i < n + m) :
    (splice (List.replicate (n + m) (bW 0)) 0 (l.map bW)).toArray[i]? = some (bW (l.getD i 0)) := by
  simp only [splice, List.take_zero, List.nil_append, Nat.zero_add, List.length_map, List.getElem?_toArray]
  by_cases hin : i < n
  · rw [List.getElem?_append_left (by simp; omega), List.getElem?_map, List.getElem?_eq_getElem (by omega)]
    simp [List.getD_eq_getElem?_getD, List.getElem?_eq_getElem (show i < l.length by omega)]
  · rw [List.getElem?_append_right (by simp; omega), List.getElem?_drop, List.getElem?_replicate, if_pos (by simp; omega)]
    simp [List.getD_eq_getElem?_getD, List.getElem?_eq_none (show l.length ≤ i by omega)]
theorem splice_rowQ {w1 : World} {g n m : Nat} {l : List Nat} {t : TypeId} (hl : l.length = n) (h : w1.heap[g]? = some (.cells (splice (List.replicate (n + m) (bW 0)) 0 (l.map bW)).toArray t (0, 0))) :
    w1.rowIs g t (n + m) (fun i => bW (l.getD i 0)) :=
  ⟨_, h, by simp [splice]; omega, fun i hi => splice_getQ n m l hl i hi⟩
theorem alloc_madeQ (w : World) (n : Nat) (t : TypeId) : (w.alloc (.cells (madeCells #[Value.int .u8 0] n) t)).heap[w.heap.size]? = some (.cells (List.replicate n (bW 0)).toArray t (0, 0)) := by
  rw [made_listQ]; exact heap_alloc_new _ _
theorem oneCell_bytesQ (l : List Nat) : ∀ v ∈ l.map bW, v.oneCell' = true := by
  intro v hv
  obtain ⟨c, _, rfl⟩ := List.mem_map.1 hv
  rfl
theorem copy_srcQ {w : World} {a : Option Addr} {n : Nat} {l : List Nat} (h : Rd w a n l) (o : Obj) (hp : 0 < (l.map bW).length) :
    ∃ ad, a = some ad ∧ ∀ j v, (l.map bW)[j]? = some v → (w.alloc o).cell? (ad.add j) = some v := by
  have hl := h.1
  have hn0 : 0 < n := by simpa [hl] using hp
  obtain ⟨b, off, ha, hlt, hc⟩ := h.2.2 hn0
  refine ⟨⟨b, off, none⟩, ha, fun j v hj => ?_⟩
  have hjn : j < n := by
    have := (List.getElem?_eq_some_iff.1 hj).1
    simpa [hl] using this
  rw [add_none, World.cell?_alloc_past _ _ _ hlt, hc j hjn]
  rw [List.getElem?_map, List.getElem?_eq_getElem (by omega)] at hj
  simp only [Option.map_some, Option.some.injEq] at hj
  rw [← hj, List.getD_eq_getElem?_getD, List.getElem?_eq_getElem (by omega)]
  rfl
theorem Try.sizeQ5 : (Try.prog.info? 5).map (·.size) = some 1 := by kernel_rfl
theorem lent_stepQ {w1 : World} {g n j : Nat} {l : List Nat} {t : TypeId} (h : w1.rowIs g t (n + 9) (fun i => bW ((l ++ lnM.take j).getD i 0))) (hl : l.length = n) (hj : j < 9) :
    (w1.setCell ⟨g, n + j, none⟩ (.int .u8 ((200 + j : Nat) : Int))).rowIs g t (n + 9) (fun i => bW ((l ++ lnM.take (j + 1)).getD i 0)) := by
  refine (h.set (n + j) _).congr fun i hi => ?_
  have hm : lnM[j]? = some (200 + j) := by
    have : j = 0 ∨ j = 1 ∨ j = 2 ∨ j = 3 ∨ j = 4 ∨ j = 5 ∨ j = 6 ∨ j = 7 ∨ j = 8 := by omega
    rcases this with rfl | rfl | rfl | rfl | rfl | rfl | rfl | rfl | rfl <;> rfl
  by_cases h1 : i = n + j
  · subst h1
    rw [if_pos rfl]
    simp only [bW, List.getD_eq_getElem?_getD]
    rw [List.getElem?_append_right (by omega), hl, Nat.add_sub_cancel_left, List.getElem?_take, if_pos (by omega), hm]
    rfl
  · rw [if_neg h1]
    simp only [bW, List.getD_eq_getElem?_getD]
    by_cases h2 : i < n
    · rw [List.getElem?_append_left (by omega), List.getElem?_append_left (by omega)]
    · rw [List.getElem?_append_right (by omega), List.getElem?_append_right (by omega), List.getElem?_take, List.getElem?_take]
      by_cases h3 : i - l.length < j
      · rw [if_pos h3, if_pos (by omega)]
      · rw [if_neg h3, if_neg (by omega)]
set_option maxHeartbeats 1000000 in
theorem lentBytes_any (a : Option Addr) (n cap : Nat) (l : List Nat) (w : World) (hr : Rd w a n l) (hn : n ≤ 140737488355328) :
    Calls Try.prog 15 #[.slice a n cap] w fun e w' => e = .returned (.slice (some ⟨w.heap.size, 0, none⟩) n (n + 9)) ∧ w'.rowIs w.heap.size 5 (n + 9) (fun i => bW ((l ++ lnM).getD i 0)) ∧ Below w.heap.size w w' := by
  have hmk := run_make_row' (P := Try.prog) 34 5 (.int .u8 0) 1 Try.underlying34 Try.info5 rfl .i64 .i64 (n + 9) (by omega) (by omega)
  rw [show ((n + 9 : Nat) : Int) = (n : Int) + 9 by omega] at hmk
  have HR := hide hr
  have hb0 : Below w.heap.size w (w.alloc (.cells (madeCells #[.int .u8 0] (n + 9)) 5)) := (Below.refl _ _).alloc (Nat.le_refl _) _
  have hl := hr.1
  clear hr
  go_enter Try.func15, Try.ntmps15
  go_wp2_with ((refine wpList_copy_splice rfl (.tmp 9) (.tmp 10) 34 34 rfl 5 Try.underlying34 Try.sizeQ5 _ _ _ _ _ _ rfl rfl w.heap.size 0 (List.replicate (n + 9) (bW 0)) 5 (alloc_madeQ w (n + 9) _) (l.map bW) (by simp [hl]) (fun hp => ⟨rfl, copy_srcQ HR.out _ hp⟩) (by simp [hl]) (oneCell_bytesQ l) w.heap.size w hb0 (Nat.le_refl _) ?_); intro w1 HG hb1; have HROW := hide (splice_rowQ (m := 9) hl HG.out); have HB1 := hide hb1; clear hb1 HG)
  go_loopw [4] (fun i wr => ∃ j : Nat, j ≤ 9 ∧ i = .int .i64 ((n : Int) + (j : Int)) ∧ Hid (wr.rowIs w.heap.size 5 (n + 9) (fun i => bW ((l ++ lnM.take j).getD i 0))) ∧ Hid (Below w.heap.size w wr)) (fun i _ => n + 9 - (intOf i).toNat)
  case atStart => exact ⟨0, by omega, by simp, hide (by simpa using HROW.out), HB1.out⟩
  case round =>
    obtain ⟨j, hj, rfl, HRW, HBW⟩ := hrel
    by_cases hj9 : j < 9
    · have hc := HRW.out.cell (show n + j < n + 9 by omega)
      have hf := HRW.out.frozen (n + j)
      have HN := hide (lent_stepQ HRW.out hl hj9)
      have HB2 := hide (HBW.out.setCell (p := ⟨w.heap.size, n + j, none⟩) (Nat.le_refl _) (.int .u8 ((200 + j : Nat) : Int)))
      clear hb0 hmk
      generalize bW ((l ++ lnM.take j).getD (n + j) 0) = y0 at *
      have hlt9 : (n : Int) + (j : Int) < (n : Int) + 9 := by omega
      go_wp2
      have hv : (200 + ((n : Int) + (j : Int)) - (n : Int)) = ((200 + j : Nat) : Int) := by omega
      rw [hv]
      refine ⟨⟨j + 1, by omega, ?_, HN.out, HB2.out⟩, ?_⟩
      · congr 1
      · simp [intOf]; omega
    · have hj' : j = 9 := by omega
      subst hj'
      have HRF : Hid (wr.rowIs w.heap.size 5 (n + 9) (fun i => bW ((l ++ lnM).getD i 0))) := HRW.out
      clear hb0 hmk hl
      go_wp2
      go_ret
      exact ⟨rfl, HRF.out, HBW.out⟩
set_option maxHeartbeats 2000000 in
/-- what was lent is as it was -/
theorem asLent_yes (g n cap : Nat) (a : Option Addr) (l : List Nat) (w w0 : World) (hrow : w.rowIs g 5 (n + 9) (fun i => bW ((l ++ lnM).getD i 0))) (hr : Rd w a n l) (hg : w0.heap.size ≤ g) (hb : Below w0.heap.size w0 w) (ha : ∀ b off, a = some ⟨b, off, none⟩ → b ≠ g) (hn : n ≤ 140737488355328) (hB : ∀ c ∈ l, c < 256) :
    Calls Try.prog 17 #[.slice (some ⟨g, 0, none⟩) n (n + 9), .slice a n cap] w fun e w' => e = .returned (.bool true) ∧ Below w0.heap.size w0 w' := by
  have hl := hr.1
  have h1 : Rd w (some ⟨g, 0, none⟩) n l := by
    refine ⟨hl, hB, fun h0 => ⟨g, 0, rfl, hrow.lt, fun j hj => ?_⟩⟩
    have := hrow.cell (show j < n + 9 by omega)
    rw [Nat.zero_add, this]
    simp only [bW, List.getD_eq_getElem?_getD]
    rw [List.getElem?_append_left (by omega)]
  have hc1 := conv_any h1 (n + 9)
  have hc2 := conv_any hr cap
  have HR := hide hrow
  have HB0 := hide hb
  clear hr h1 hrow hb
  go_enter Try.func17, Try.ntmps17
  go_wp2
  go_loopw [6, 7] (fun gv i wr => ∃ k : Nat, k ≤ n + 9 ∧ gv = .bool true ∧ i = .int .i64 (k : Int) ∧ Hid (wr.rowIs g 5 (n + 9) (fun i => if i < k then bW 77 else bW ((l ++ lnM).getD i 0))) ∧ Hid (Below w0.heap.size w0 wr)) (fun _ i _ => n + 9 - (intOf i).toNat)
  case atStart => exact ⟨0, by omega, rfl, rfl, hide (by simpa using HR.out), HB0.out⟩
  case round =>
    obtain ⟨k, hk, rfl, rfl, HRW, HBW⟩ := hrel
    by_cases hk9 : k < n + 9
    · have hc := HRW.out.cell hk9
      rw [if_neg (Nat.lt_irrefl k)] at hc
      have hf := HRW.out.frozen k
      have HN : Hid ((wr.setCell ⟨g, k, none⟩ (.int .u8 77)).rowIs g 5 (n + 9) (fun i => if i < k + 1 then bW 77 else bW ((l ++ lnM).getD i 0))) := (HRW.out.set k _).congr fun i hi => by
        by_cases h1 : i = k
        · subst h1
          rw [if_pos rfl, if_pos (by omega)]
          rfl
        · rw [if_neg h1]
          by_cases h2 : i < k
          · rw [if_pos h2, if_pos (by omega)]
          · rw [if_neg h2, if_neg (by omega)]
      have HB2 := hide (HBW.out.setCell (p := ⟨g, k, none⟩) hg (.int .u8 77))
      have hklt : (k : Int) < (n : Int) + 9 := by omega
      by_cases hkn : k < n
      · clear hc1 hc2
        generalize bW ((l ++ lnM).getD k 0) = y0 at *
        go_wp2
        exact ⟨⟨k + 1, by omega, rfl, by go_num, HN.out, HB2.out⟩, by simp [intOf]; omega⟩
      · obtain ⟨j, rfl⟩ : ∃ j, k = n + j := ⟨k - n, by omega⟩
        have hy : bW ((l ++ lnM).getD (n + j) 0) = .int .u8 (200 + (j : Int)) := by
          have : j = 0 ∨ j = 1 ∨ j = 2 ∨ j = 3 ∨ j = 4 ∨ j = 5 ∨ j = 6 ∨ j = 7 ∨ j = 8 := by omega
          simp only [bW, List.getD_eq_getElem?_getD]
          rw [List.getElem?_append_right (by omega), hl, Nat.add_sub_cancel_left]
          rcases this with rfl | rfl | rfl | rfl | rfl | rfl | rfl | rfl | rfl <;> rfl
        rw [hy] at hc
        clear hc1 hc2 hy
        have hv : (200 + ((n + j : Nat) : Int) - (n : Int)) = 200 + (j : Int) := by omega
        have hv2 : (200 + ((n : Int) + (j : Int)) - (n : Int)) = 200 + (j : Int) := by omega
        have hge : (n : Int) ≤ (n : Int) + (j : Int) := by omega
        go_wp2
        exact ⟨⟨n + j + 1, by omega, rfl, by congr 1, HN.out, HB2.out⟩, by simp [intOf]; omega⟩
    · have hk' : k = n + 9 := by omega
      subst hk'
      clear hc1 hc2
      go_wp2
      go_ret
      exact ⟨rfl, HBW.out⟩
end Go.Proofs.Ytgkdecjlanbmhaa
