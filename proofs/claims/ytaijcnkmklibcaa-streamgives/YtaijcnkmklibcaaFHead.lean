
/- Header: the program's and the document's. -/
import Derived.Test.YtaijcnkmklibcaaFRow
namespace Go.Proofs.Ytaijcnkmklibcaa
open Go.RowKit Go.Deep
set_option linter.unusedVariables false
set_option linter.unusedSimpArgs false

/-- the bytes of a header -/
def hdr (p : Nat) : List Nat := [76, 83, 72, 82, p, 1, 0, 0]
theorem hdr_lt {p : Nat} (h : p < 256) : ∀ c ∈ hdr p, c < 256 := by
  intro c hc
  simp [hdr] at hc
  omega
set_option maxHeartbeats 1000000 in
theorem header_yes (p : Nat) (w : World) (hp : p = 0 ∨ p = 3) :
    Calls Try.prog 15 #[.int .i64 (p : Int)] w fun e w' => e = .returned (.tuple #[.slice (some ⟨w.heap.size, 0, none⟩) 8 8, .int .i64 0]) ∧ Bl w' w.heap.size (hdr p) ∧ w'.heap.size = w.heap.size + 1 ∧ Below w.heap.size w w' := by
  rcases hp with rfl | rfl
  · go_enter Try.func15, Try.ntmps15
    go_wp2
    go_ret2
    exact ⟨rfl, heap_alloc_new _ _, by simp, (Below.refl _ _).alloc (Nat.le_refl _) _⟩
  · go_enter Try.func15, Try.ntmps15
    go_wp2
    go_ret2
    exact ⟨rfl, heap_alloc_new _ _, by simp, (Below.refl _ _).alloc (Nat.le_refl _) _⟩
set_option maxHeartbeats 1000000 in
theorem header_no (p : Int) (w : World) (h0 : p ≠ 0) (h3 : p ≠ 3) :
    Calls Try.prog 15 #[.int .i64 p] w fun e w' => e = .returned (.tuple #[.slice none 0 0, .int .i64 50]) ∧ w = w' := by
  have e0 : (p != 0) = true := by simpa using h0
  have e3 : (p != 3) = true := by simpa using h3
  clear h0 h3
  go_enter Try.func15, Try.ntmps15
  go_wp2
  go_ret2
  exact ⟨rfl, rfl⟩
set_option maxHeartbeats 1000000 in
theorem headed_any (p : Nat) (w : World) (hp : p < 256) :
    Calls Try.prog 69 #[.int .i64 (p : Int)] w fun e w' => e = .returned (.slice (some ⟨w.heap.size, 0, none⟩) 8 8) ∧ Bl w' w.heap.size (hdr p) ∧ w'.heap.size = w.heap.size + 1 ∧ Below w.heap.size w w' := by
  go_enter Try.func69, Try.ntmps69
  go_wp2
  go_ret
  exact ⟨rfl, heap_alloc_new _ _, by simp, (Below.refl _ _).alloc (Nat.le_refl _) _⟩
theorem Rd.take {w : World} {a : Option Addr} {n : Nat} {l : List Nat} (h : Rd w a n l) {m : Nat} (hm : m ≤ n) : Rd w a m (l.take m) := by
  obtain ⟨h1, h2, h3⟩ := h
  refine ⟨by simp; omega, fun c hc => h2 c (List.mem_of_mem_take hc), fun h0 => ?_⟩
  obtain ⟨b, off, ha, hlt, hc⟩ := h3 (by omega)
  refine ⟨b, off, ha, hlt, fun j hj => ?_⟩
  rw [hc j (by omega)]
  simp [List.getD_eq_getElem?_getD, hj]
/-- a cut of bytes reads -/
theorem Rd.cut {w : World} {a : Option Addr} {n : Nat} {l : List Nat} (h : Rd w a n l) {i m : Nat} (hm : i + m ≤ n) {a' : Option Addr} (ha : 0 < m → ∀ b off, a = some ⟨b, off, none⟩ → a' = some ⟨b, off + i, none⟩) : Rd w a' m ((l.drop i).take m) := by
  obtain ⟨h1, h2, h3⟩ := h
  refine ⟨by simp; omega, fun c hc => h2 c (List.mem_of_mem_drop (List.mem_of_mem_take hc)), fun h0 => ?_⟩
  obtain ⟨b, off, he, hlt, hc⟩ := h3 (by omega)
  refine ⟨b, off + i, ha h0 b off he, hlt, fun j hj => ?_⟩
  rw [show off + i + j = off + (i + j) by omega, hc (i + j) (by omega)]
  simp [List.getD_eq_getElem?_getD, hj]

set_option maxHeartbeats 1000000 in
theorem equal_any (a b : Option Addr) (n m ca cb : Nat) (l l2 : List Nat) (w : World) (ha : Rd w a n l) (hb : Rd w b m l2) :
    Calls Try.prog 57 #[.slice a n ca, .slice b m cb] w fun e w' => e = .returned (.bool (decide (l = l2))) ∧ w = w' := by
  have hc1 := conv_any ha ca
  have hc2 := conv_any hb cb
  have HQ := hide (mkS_beq l l2 ha.2.1 hb.2.1)
  clear ha hb
  go_enter Try.func57, Try.ntmps57
  go_wp2
  go_ret
  exact ⟨by rw [HQ.out]; rfl, rfl⟩
set_option maxHeartbeats 1000000 in
theorem hasPrefix_any (a b : Option Addr) (n m ca cb : Nat) (l l2 : List Nat) (w : World) (ha : Rd w a n l) (hb : Rd w b m l2) (hm : m ≤ n) (hn : n ≤ ca) (hca : ca ≤ 281474976710656) :
    Calls Try.prog 53 #[.slice a n ca, .slice b m cb] w fun e w' => e = .returned (.bool (decide (l.take m = l2))) ∧ w = w' := by
  have HE := hide (fun c => equal_any a b m m c cb _ _ w (ha.take hm) hb)
  clear ha hb
  generalize decide (l.take m = l2) = T at *
  go_enter Try.func53, Try.ntmps53
  go_wp2_with (go_at_call 57; refine (HE.out _).mono ?_; rintro e w' ⟨rfl, rfl⟩)
  go_ret
  exact ⟨rfl, rfl⟩

/-- what stands at a place, as far as a header goes -/
def there (l : List Nat) (i : Nat) : List Nat := (l.drop i).take 8
/-- does it begin as a header does? -/
def isB (p : Nat) (th : List Nat) : Bool := decide ((hdr p).take th.length = th)
def rdH (l : List Nat) (x : Int) : Int × Int × Int :=
  if x < 0 ∨ l.length < x then (0, 0, 1)
  else if isB 0 (there l x.toNat) = true then (if (there l x.toNat).length < 8 then (0, 0, 10) else (0, x + 8, 0))
  else if isB 3 (there l x.toNat) = true then (if (there l x.toNat).length < 8 then (0, 0, 10) else (3, x + 8, 0))
  else (0, 0, 50)
def trip (t : Int × Int × Int) : Value := .tuple #[.int .i64 t.1, .int .i64 t.2.1, .int .i64 t.2.2]

theorem index_0 (w : World) : (Instr.index 97 (.agg #[.int .i64 0, .int .i64 3]) (.int .i64 0)).run Try.prog w = .ok (.int .i64 0) w := by kernel_rfl
theorem index_1 (w : World) : (Instr.index 97 (.agg #[.int .i64 0, .int .i64 3]) (.int .i64 1)).run Try.prog w = .ok (.int .i64 3) w := by kernel_rfl
theorem rdH_in (l : List Nat) (i : Nat) (h : i ≤ l.length) : rdH l (i : Int) = if isB 0 (there l i) = true then (if (there l i).length < 8 then (0, 0, 10) else (0, (i : Int) + 8, 0))
      else if isB 3 (there l i) = true then (if (there l i).length < 8 then (0, 0, 10) else (3, (i : Int) + 8, 0)) else (0, 0, 50) := by
  unfold rdH
  rw [if_neg (by omega), Int.toNat_natCast]
theorem there_length {l : List Nat} {n i : Nat} (h : l.length = n) : (there l i).length = min (n - i) 8 := by unfold there; simp; omega
theorem there_rd {w : World} {a : Option Addr} {n i : Nat} {l : List Nat} (hr : Rd w a n l) (hi : i ≤ n) (a' : Option Addr) (m : Nat) (hm : m = min (n - i) 8) (h : 0 < m → ∀ b off, a = some ⟨b, off, none⟩ → a' = some ⟨b, off + i, none⟩) : Rd w a' m (there l i) := by
  have := hr.cut (i := i) (m := m) (by omega) h
  have hl := hr.1
  have e : (l.drop i).take m = there l i := by
    unfold there
    by_cases h8 : n - i ≤ 8
    · rw [hm, Nat.min_eq_left h8, List.take_of_length_le (by simp; omega), List.take_of_length_le (by simp; omega)]
    · rw [hm, Nat.min_eq_right (by omega)]
  rwa [e] at this
theorem map_add (a : Option Addr) (i b off : Nat) (h : a = some ⟨b, off, none⟩) : a.map (fun x => x.add i) = some ⟨b, off + i, none⟩ := by
  rw [h, Option.map_some, add_none]

set_option maxRecDepth 100000 in
set_option maxHeartbeats 2000000 in
theorem readHeader_end (a : Option Addr) (n cap i : Nat) (l : List Nat) (w : World) (hr : Rd w a n l) (hi : i ≤ n) (hnc : n ≤ cap) (hcap : n ≤ 281474976710656) (hci : cap = i) :
    Calls Try.prog 49 #[.slice a n cap, .int .i64 (i : Int)] w fun e w' => e = .returned (trip (rdH l (i : Int))) ∧ Below w.heap.size w w' := by
  have HS := hide (rdH_in l i (by rw [hr.1]; exact hi))
  have hthl : (there l i).length = (n - i) := by rw [there_length hr.1]; omega
  have HT : Hid (Rd w a ((n - i)) (there l i)) := there_rd hr hi _ _ (by omega) (fun h0 b off h => by omega)
  clear hr
  have hx0 := index_0
  have hx1 := index_1
  
  go_enter Try.func49, Try.ntmps49
  go_wp2
  try generalize decide (n < i) = D1
  try generalize decide ((i : Int) < 0) = D2
  go_loopw [29] (fun j wr => ∃ t : Nat, t ≤ 2 ∧ j = .int .i64 t ∧ Below w.heap.size w wr ∧ Hid (1 ≤ t → isB 0 (there l i) = false) ∧ Hid (2 ≤ t → isB 3 (there l i) = false)) (fun j _ => 2 - (intOf j).toNat)
  case atStart => exact ⟨0, Nat.zero_le _, rfl, Below.refl _ _, hide (fun h => by omega), hide (fun h => by omega)⟩
  case round =>
    obtain ⟨t, ht, rfl, hb, H0, H3⟩ := hrel
    have ht3 : t = 0 ∨ t = 1 ∨ t = 2 := by omega
    rcases ht3 with rfl | rfl | rfl
    · cases hB : isB 0 (there l i)
      · have HB0 := hide hB
        have HH := hide (header_yes 0 wr (by omega))
        go_wp2_with (first
          | (go_at_call 15; refine HH.out.mono ?_; rintro e w2 ⟨rfl, h1, h2, h3⟩; have HP := hide (hasPrefix_any (some ⟨wr.heap.size, 0, none⟩) _ 8 (n - i) 8 0 (hdr 0) (there l i) w2 (h1.rd0 (hdr_lt (by omega))) ((HT.out.below hb).below (h3.mono (Nat.le_refl _))) (by omega) (by omega) (by omega)); rw [show decide (List.take ((n - i)) (hdr 0) = there l i) = isB 0 (there l i) by unfold isB; rw [hthl]] at HP; have HBW := hide (hb.trans (h3.mono hb.size)); clear h1 h3)
          | (go_at_call 53; refine HP.out.mono ?_; rintro e w3 ⟨rfl, rfl⟩))
        go_roundw
        case rel => exact ⟨1, by omega, rfl, HBW.out, hide (fun _ => by first | exact HB0.out | trivial), hide (fun h => by omega)⟩
        case measure => simp [intOf]
      · have HB0 := hide hB
        have HH := hide (header_yes 0 wr (by omega))
        go_wp2_with (first
          | (go_at_call 15; refine HH.out.mono ?_; rintro e w2 ⟨rfl, h1, h2, h3⟩; have HP := hide (hasPrefix_any (some ⟨wr.heap.size, 0, none⟩) _ 8 (n - i) 8 0 (hdr 0) (there l i) w2 (h1.rd0 (hdr_lt (by omega))) ((HT.out.below hb).below (h3.mono (Nat.le_refl _))) (by omega) (by omega) (by omega)); rw [show decide (List.take ((n - i)) (hdr 0) = there l i) = isB 0 (there l i) by unfold isB; rw [hthl]] at HP; have HBW := hide (hb.trans (h3.mono hb.size)); clear h1 h3)
          | (go_at_call 53; refine HP.out.mono ?_; rintro e w3 ⟨rfl, rfl⟩))
        go_ret3
        refine ⟨?_, HBW.out⟩
        rw [HS.out, if_pos HB0.out, if_pos (by omega)]
        rfl
    · have HBZ := hide (H0.out (Nat.le_refl _))
      cases hB : isB 3 (there l i)
      · have HB0 := hide hB
        have HH := hide (header_yes 3 wr (by omega))
        go_wp2_with (first
          | (go_at_call 15; refine HH.out.mono ?_; rintro e w2 ⟨rfl, h1, h2, h3⟩; have HP := hide (hasPrefix_any (some ⟨wr.heap.size, 0, none⟩) _ 8 (n - i) 8 0 (hdr 3) (there l i) w2 (h1.rd0 (hdr_lt (by omega))) ((HT.out.below hb).below (h3.mono (Nat.le_refl _))) (by omega) (by omega) (by omega)); rw [show decide (List.take ((n - i)) (hdr 3) = there l i) = isB 3 (there l i) by unfold isB; rw [hthl]] at HP; have HBW := hide (hb.trans (h3.mono hb.size)); clear h1 h3)
          | (go_at_call 53; refine HP.out.mono ?_; rintro e w3 ⟨rfl, rfl⟩))
        go_roundw
        case rel => exact ⟨2, by omega, rfl, HBW.out, hide (fun _ => by first | exact HBZ.out | trivial), hide (fun _ => by first | exact HB0.out | trivial)⟩
        case measure => simp [intOf]
      · have HB0 := hide hB
        have HH := hide (header_yes 3 wr (by omega))
        go_wp2_with (first
          | (go_at_call 15; refine HH.out.mono ?_; rintro e w2 ⟨rfl, h1, h2, h3⟩; have HP := hide (hasPrefix_any (some ⟨wr.heap.size, 0, none⟩) _ 8 (n - i) 8 0 (hdr 3) (there l i) w2 (h1.rd0 (hdr_lt (by omega))) ((HT.out.below hb).below (h3.mono (Nat.le_refl _))) (by omega) (by omega) (by omega)); rw [show decide (List.take ((n - i)) (hdr 3) = there l i) = isB 3 (there l i) by unfold isB; rw [hthl]] at HP; have HBW := hide (hb.trans (h3.mono hb.size)); clear h1 h3)
          | (go_at_call 53; refine HP.out.mono ?_; rintro e w3 ⟨rfl, rfl⟩))
        go_ret3
        refine ⟨?_, HBW.out⟩
        rw [HS.out, if_neg (by simp [HBZ.out]), if_pos HB0.out, if_pos (by omega)]
        rfl
    · go_wp2
      go_ret3
      refine ⟨?_, hb⟩
      rw [HS.out, if_neg (by simp [H0.out (by omega)]), if_neg (by simp [H3.out (Nat.le_refl _)])]
      rfl

set_option maxRecDepth 100000 in
set_option maxHeartbeats 2000000 in
theorem readHeader_big (x : Addr) (n cap i : Nat) (l : List Nat) (w : World) (hr : Rd w (some x) n l) (hi : i ≤ n) (hnc : n ≤ cap) (hcap : n ≤ 281474976710656) (hci : ¬ cap = i) (h8 : 8 < n - i) :
    Calls Try.prog 49 #[.slice (some x) n cap, .int .i64 (i : Int)] w fun e w' => e = .returned (trip (rdH l (i : Int))) ∧ Below w.heap.size w w' := by
  have HS := hide (rdH_in l i (by rw [hr.1]; exact hi))
  have hthl : (there l i).length = 8 := by rw [there_length hr.1]; omega
  have HT : Hid (Rd w (some (x.add i)) (8) (there l i)) := there_rd hr hi _ _ (by omega) (fun h0 b off h => map_add (some x) i b off h)
  clear hr
  have hx0 := index_0
  have hx1 := index_1
  
  go_enter Try.func49, Try.ntmps49
  go_wp2
  generalize x.add i = y at *
  try generalize decide (n < i) = D1
  try generalize decide ((i : Int) < 0) = D2
  go_loopw [29] (fun j wr => ∃ t : Nat, t ≤ 2 ∧ j = .int .i64 t ∧ Below w.heap.size w wr ∧ Hid (1 ≤ t → isB 0 (there l i) = false) ∧ Hid (2 ≤ t → isB 3 (there l i) = false)) (fun j _ => 2 - (intOf j).toNat)
  case atStart => exact ⟨0, Nat.zero_le _, rfl, Below.refl _ _, hide (fun h => by omega), hide (fun h => by omega)⟩
  case round =>
    obtain ⟨t, ht, rfl, hb, H0, H3⟩ := hrel
    have ht3 : t = 0 ∨ t = 1 ∨ t = 2 := by omega
    rcases ht3 with rfl | rfl | rfl
    · cases hB : isB 0 (there l i)
      · have HB0 := hide hB
        have HH := hide (header_yes 0 wr (by omega))
        go_wp2_with (first
          | (go_at_call 15; refine HH.out.mono ?_; rintro e w2 ⟨rfl, h1, h2, h3⟩; have HP := hide (hasPrefix_any (some ⟨wr.heap.size, 0, none⟩) _ 8 8 8 (cap - i) (hdr 0) (there l i) w2 (h1.rd0 (hdr_lt (by omega))) ((HT.out.below hb).below (h3.mono (Nat.le_refl _))) (by omega) (by omega) (by omega)); rw [show decide (List.take (8) (hdr 0) = there l i) = isB 0 (there l i) by unfold isB; rw [hthl]] at HP; have HBW := hide (hb.trans (h3.mono hb.size)); clear h1 h3)
          | (go_at_call 53; refine HP.out.mono ?_; rintro e w3 ⟨rfl, rfl⟩))
        go_roundw
        case rel => exact ⟨1, by omega, rfl, HBW.out, hide (fun _ => by first | exact HB0.out | trivial), hide (fun h => by omega)⟩
        case measure => simp [intOf]
      · have HB0 := hide hB
        have HH := hide (header_yes 0 wr (by omega))
        go_wp2_with (first
          | (go_at_call 15; refine HH.out.mono ?_; rintro e w2 ⟨rfl, h1, h2, h3⟩; have HP := hide (hasPrefix_any (some ⟨wr.heap.size, 0, none⟩) _ 8 8 8 (cap - i) (hdr 0) (there l i) w2 (h1.rd0 (hdr_lt (by omega))) ((HT.out.below hb).below (h3.mono (Nat.le_refl _))) (by omega) (by omega) (by omega)); rw [show decide (List.take (8) (hdr 0) = there l i) = isB 0 (there l i) by unfold isB; rw [hthl]] at HP; have HBW := hide (hb.trans (h3.mono hb.size)); clear h1 h3)
          | (go_at_call 53; refine HP.out.mono ?_; rintro e w3 ⟨rfl, rfl⟩))
        go_ret3
        refine ⟨?_, HBW.out⟩
        rw [HS.out, if_pos HB0.out, if_neg (by omega)]
        rfl
    · have HBZ := hide (H0.out (Nat.le_refl _))
      cases hB : isB 3 (there l i)
      · have HB0 := hide hB
        have HH := hide (header_yes 3 wr (by omega))
        go_wp2_with (first
          | (go_at_call 15; refine HH.out.mono ?_; rintro e w2 ⟨rfl, h1, h2, h3⟩; have HP := hide (hasPrefix_any (some ⟨wr.heap.size, 0, none⟩) _ 8 8 8 (cap - i) (hdr 3) (there l i) w2 (h1.rd0 (hdr_lt (by omega))) ((HT.out.below hb).below (h3.mono (Nat.le_refl _))) (by omega) (by omega) (by omega)); rw [show decide (List.take (8) (hdr 3) = there l i) = isB 3 (there l i) by unfold isB; rw [hthl]] at HP; have HBW := hide (hb.trans (h3.mono hb.size)); clear h1 h3)
          | (go_at_call 53; refine HP.out.mono ?_; rintro e w3 ⟨rfl, rfl⟩))
        go_roundw
        case rel => exact ⟨2, by omega, rfl, HBW.out, hide (fun _ => by first | exact HBZ.out | trivial), hide (fun _ => by first | exact HB0.out | trivial)⟩
        case measure => simp [intOf]
      · have HB0 := hide hB
        have HH := hide (header_yes 3 wr (by omega))
        go_wp2_with (first
          | (go_at_call 15; refine HH.out.mono ?_; rintro e w2 ⟨rfl, h1, h2, h3⟩; have HP := hide (hasPrefix_any (some ⟨wr.heap.size, 0, none⟩) _ 8 8 8 (cap - i) (hdr 3) (there l i) w2 (h1.rd0 (hdr_lt (by omega))) ((HT.out.below hb).below (h3.mono (Nat.le_refl _))) (by omega) (by omega) (by omega)); rw [show decide (List.take (8) (hdr 3) = there l i) = isB 3 (there l i) by unfold isB; rw [hthl]] at HP; have HBW := hide (hb.trans (h3.mono hb.size)); clear h1 h3)
          | (go_at_call 53; refine HP.out.mono ?_; rintro e w3 ⟨rfl, rfl⟩))
        go_ret3
        refine ⟨?_, HBW.out⟩
        rw [HS.out, if_neg (by simp [HBZ.out]), if_pos HB0.out, if_neg (by omega)]
        rfl
    · go_wp2
      go_ret3
      refine ⟨?_, hb⟩
      rw [HS.out, if_neg (by simp [H0.out (by omega)]), if_neg (by simp [H3.out (Nat.le_refl _)])]
      rfl

set_option maxRecDepth 100000 in
set_option maxHeartbeats 2000000 in
theorem readHeader_eq (x : Addr) (n cap i : Nat) (l : List Nat) (w : World) (hr : Rd w (some x) n l) (hi : i ≤ n) (hnc : n ≤ cap) (hcap : n ≤ 281474976710656) (hci : ¬ cap = i) (h8 : 8 ≤ n - i) (h9 : n - i ≤ 8) :
    Calls Try.prog 49 #[.slice (some x) n cap, .int .i64 (i : Int)] w fun e w' => e = .returned (trip (rdH l (i : Int))) ∧ Below w.heap.size w w' := by
  have HS := hide (rdH_in l i (by rw [hr.1]; exact hi))
  have hthl : (there l i).length = (n - i) := by rw [there_length hr.1]; omega
  have HT : Hid (Rd w (some (x.add i)) ((n - i)) (there l i)) := there_rd hr hi _ _ (by omega) (fun h0 b off h => map_add (some x) i b off h)
  clear hr
  have hx0 := index_0
  have hx1 := index_1
  
  go_enter Try.func49, Try.ntmps49
  go_wp2
  generalize x.add i = y at *
  try generalize decide (n < i) = D1
  try generalize decide ((i : Int) < 0) = D2
  go_loopw [29] (fun j wr => ∃ t : Nat, t ≤ 2 ∧ j = .int .i64 t ∧ Below w.heap.size w wr ∧ Hid (1 ≤ t → isB 0 (there l i) = false) ∧ Hid (2 ≤ t → isB 3 (there l i) = false)) (fun j _ => 2 - (intOf j).toNat)
  case atStart => exact ⟨0, Nat.zero_le _, rfl, Below.refl _ _, hide (fun h => by omega), hide (fun h => by omega)⟩
  case round =>
    obtain ⟨t, ht, rfl, hb, H0, H3⟩ := hrel
    have ht3 : t = 0 ∨ t = 1 ∨ t = 2 := by omega
    rcases ht3 with rfl | rfl | rfl
    · cases hB : isB 0 (there l i)
      · have HB0 := hide hB
        have HH := hide (header_yes 0 wr (by omega))
        go_wp2_with (first
          | (go_at_call 15; refine HH.out.mono ?_; rintro e w2 ⟨rfl, h1, h2, h3⟩; have HP := hide (hasPrefix_any (some ⟨wr.heap.size, 0, none⟩) _ 8 (n - i) 8 (cap - i) (hdr 0) (there l i) w2 (h1.rd0 (hdr_lt (by omega))) ((HT.out.below hb).below (h3.mono (Nat.le_refl _))) (by omega) (by omega) (by omega)); rw [show decide (List.take ((n - i)) (hdr 0) = there l i) = isB 0 (there l i) by unfold isB; rw [hthl]] at HP; have HBW := hide (hb.trans (h3.mono hb.size)); clear h1 h3)
          | (go_at_call 53; refine HP.out.mono ?_; rintro e w3 ⟨rfl, rfl⟩))
        go_roundw
        case rel => exact ⟨1, by omega, rfl, HBW.out, hide (fun _ => by first | exact HB0.out | trivial), hide (fun h => by omega)⟩
        case measure => simp [intOf]
      · have HB0 := hide hB
        have HH := hide (header_yes 0 wr (by omega))
        go_wp2_with (first
          | (go_at_call 15; refine HH.out.mono ?_; rintro e w2 ⟨rfl, h1, h2, h3⟩; have HP := hide (hasPrefix_any (some ⟨wr.heap.size, 0, none⟩) _ 8 (n - i) 8 (cap - i) (hdr 0) (there l i) w2 (h1.rd0 (hdr_lt (by omega))) ((HT.out.below hb).below (h3.mono (Nat.le_refl _))) (by omega) (by omega) (by omega)); rw [show decide (List.take ((n - i)) (hdr 0) = there l i) = isB 0 (there l i) by unfold isB; rw [hthl]] at HP; have HBW := hide (hb.trans (h3.mono hb.size)); clear h1 h3)
          | (go_at_call 53; refine HP.out.mono ?_; rintro e w3 ⟨rfl, rfl⟩))
        go_ret3
        refine ⟨?_, HBW.out⟩
        rw [HS.out, if_pos HB0.out, if_neg (by omega)]
        rfl
    · have HBZ := hide (H0.out (Nat.le_refl _))
      cases hB : isB 3 (there l i)
      · have HB0 := hide hB
        have HH := hide (header_yes 3 wr (by omega))
        go_wp2_with (first
          | (go_at_call 15; refine HH.out.mono ?_; rintro e w2 ⟨rfl, h1, h2, h3⟩; have HP := hide (hasPrefix_any (some ⟨wr.heap.size, 0, none⟩) _ 8 (n - i) 8 (cap - i) (hdr 3) (there l i) w2 (h1.rd0 (hdr_lt (by omega))) ((HT.out.below hb).below (h3.mono (Nat.le_refl _))) (by omega) (by omega) (by omega)); rw [show decide (List.take ((n - i)) (hdr 3) = there l i) = isB 3 (there l i) by unfold isB; rw [hthl]] at HP; have HBW := hide (hb.trans (h3.mono hb.size)); clear h1 h3)
          | (go_at_call 53; refine HP.out.mono ?_; rintro e w3 ⟨rfl, rfl⟩))
        go_roundw
        case rel => exact ⟨2, by omega, rfl, HBW.out, hide (fun _ => by first | exact HBZ.out | trivial), hide (fun _ => by first | exact HB0.out | trivial)⟩
        case measure => simp [intOf]
      · have HB0 := hide hB
        have HH := hide (header_yes 3 wr (by omega))
        go_wp2_with (first
          | (go_at_call 15; refine HH.out.mono ?_; rintro e w2 ⟨rfl, h1, h2, h3⟩; have HP := hide (hasPrefix_any (some ⟨wr.heap.size, 0, none⟩) _ 8 (n - i) 8 (cap - i) (hdr 3) (there l i) w2 (h1.rd0 (hdr_lt (by omega))) ((HT.out.below hb).below (h3.mono (Nat.le_refl _))) (by omega) (by omega) (by omega)); rw [show decide (List.take ((n - i)) (hdr 3) = there l i) = isB 3 (there l i) by unfold isB; rw [hthl]] at HP; have HBW := hide (hb.trans (h3.mono hb.size)); clear h1 h3)
          | (go_at_call 53; refine HP.out.mono ?_; rintro e w3 ⟨rfl, rfl⟩))
        go_ret3
        refine ⟨?_, HBW.out⟩
        rw [HS.out, if_neg (by simp [HBZ.out]), if_pos HB0.out, if_neg (by omega)]
        rfl
    · go_wp2
      go_ret3
      refine ⟨?_, hb⟩
      rw [HS.out, if_neg (by simp [H0.out (by omega)]), if_neg (by simp [H3.out (Nat.le_refl _)])]
      rfl

set_option maxRecDepth 100000 in
set_option maxHeartbeats 2000000 in
theorem readHeader_less (x : Addr) (n cap i : Nat) (l : List Nat) (w : World) (hr : Rd w (some x) n l) (hi : i ≤ n) (hnc : n ≤ cap) (hcap : n ≤ 281474976710656) (hci : ¬ cap = i) (h8 : n - i < 8) :
    Calls Try.prog 49 #[.slice (some x) n cap, .int .i64 (i : Int)] w fun e w' => e = .returned (trip (rdH l (i : Int))) ∧ Below w.heap.size w w' := by
  have HS := hide (rdH_in l i (by rw [hr.1]; exact hi))
  have hthl : (there l i).length = (n - i) := by rw [there_length hr.1]; omega
  have HT : Hid (Rd w (some (x.add i)) ((n - i)) (there l i)) := there_rd hr hi _ _ (by omega) (fun h0 b off h => map_add (some x) i b off h)
  clear hr
  have hx0 := index_0
  have hx1 := index_1
  
  go_enter Try.func49, Try.ntmps49
  go_wp2
  generalize x.add i = y at *
  try generalize decide (n < i) = D1
  try generalize decide ((i : Int) < 0) = D2
  go_loopw [29] (fun j wr => ∃ t : Nat, t ≤ 2 ∧ j = .int .i64 t ∧ Below w.heap.size w wr ∧ Hid (1 ≤ t → isB 0 (there l i) = false) ∧ Hid (2 ≤ t → isB 3 (there l i) = false)) (fun j _ => 2 - (intOf j).toNat)
  case atStart => exact ⟨0, Nat.zero_le _, rfl, Below.refl _ _, hide (fun h => by omega), hide (fun h => by omega)⟩
  case round =>
    obtain ⟨t, ht, rfl, hb, H0, H3⟩ := hrel
    have ht3 : t = 0 ∨ t = 1 ∨ t = 2 := by omega
    rcases ht3 with rfl | rfl | rfl
    · cases hB : isB 0 (there l i)
      · have HB0 := hide hB
        have HH := hide (header_yes 0 wr (by omega))
        go_wp2_with (first
          | (go_at_call 15; refine HH.out.mono ?_; rintro e w2 ⟨rfl, h1, h2, h3⟩; have HP := hide (hasPrefix_any (some ⟨wr.heap.size, 0, none⟩) _ 8 (n - i) 8 (cap - i) (hdr 0) (there l i) w2 (h1.rd0 (hdr_lt (by omega))) ((HT.out.below hb).below (h3.mono (Nat.le_refl _))) (by omega) (by omega) (by omega)); rw [show decide (List.take ((n - i)) (hdr 0) = there l i) = isB 0 (there l i) by unfold isB; rw [hthl]] at HP; have HBW := hide (hb.trans (h3.mono hb.size)); clear h1 h3)
          | (go_at_call 53; refine HP.out.mono ?_; rintro e w3 ⟨rfl, rfl⟩))
        go_roundw
        case rel => exact ⟨1, by omega, rfl, HBW.out, hide (fun _ => by first | exact HB0.out | trivial), hide (fun h => by omega)⟩
        case measure => simp [intOf]
      · have HB0 := hide hB
        have HH := hide (header_yes 0 wr (by omega))
        go_wp2_with (first
          | (go_at_call 15; refine HH.out.mono ?_; rintro e w2 ⟨rfl, h1, h2, h3⟩; have HP := hide (hasPrefix_any (some ⟨wr.heap.size, 0, none⟩) _ 8 (n - i) 8 (cap - i) (hdr 0) (there l i) w2 (h1.rd0 (hdr_lt (by omega))) ((HT.out.below hb).below (h3.mono (Nat.le_refl _))) (by omega) (by omega) (by omega)); rw [show decide (List.take ((n - i)) (hdr 0) = there l i) = isB 0 (there l i) by unfold isB; rw [hthl]] at HP; have HBW := hide (hb.trans (h3.mono hb.size)); clear h1 h3)
          | (go_at_call 53; refine HP.out.mono ?_; rintro e w3 ⟨rfl, rfl⟩))
        go_ret3
        refine ⟨?_, HBW.out⟩
        rw [HS.out, if_pos HB0.out, if_pos (by omega)]
        rfl
    · have HBZ := hide (H0.out (Nat.le_refl _))
      cases hB : isB 3 (there l i)
      · have HB0 := hide hB
        have HH := hide (header_yes 3 wr (by omega))
        go_wp2_with (first
          | (go_at_call 15; refine HH.out.mono ?_; rintro e w2 ⟨rfl, h1, h2, h3⟩; have HP := hide (hasPrefix_any (some ⟨wr.heap.size, 0, none⟩) _ 8 (n - i) 8 (cap - i) (hdr 3) (there l i) w2 (h1.rd0 (hdr_lt (by omega))) ((HT.out.below hb).below (h3.mono (Nat.le_refl _))) (by omega) (by omega) (by omega)); rw [show decide (List.take ((n - i)) (hdr 3) = there l i) = isB 3 (there l i) by unfold isB; rw [hthl]] at HP; have HBW := hide (hb.trans (h3.mono hb.size)); clear h1 h3)
          | (go_at_call 53; refine HP.out.mono ?_; rintro e w3 ⟨rfl, rfl⟩))
        go_roundw
        case rel => exact ⟨2, by omega, rfl, HBW.out, hide (fun _ => by first | exact HBZ.out | trivial), hide (fun _ => by first | exact HB0.out | trivial)⟩
        case measure => simp [intOf]
      · have HB0 := hide hB
        have HH := hide (header_yes 3 wr (by omega))
        go_wp2_with (first
          | (go_at_call 15; refine HH.out.mono ?_; rintro e w2 ⟨rfl, h1, h2, h3⟩; have HP := hide (hasPrefix_any (some ⟨wr.heap.size, 0, none⟩) _ 8 (n - i) 8 (cap - i) (hdr 3) (there l i) w2 (h1.rd0 (hdr_lt (by omega))) ((HT.out.below hb).below (h3.mono (Nat.le_refl _))) (by omega) (by omega) (by omega)); rw [show decide (List.take ((n - i)) (hdr 3) = there l i) = isB 3 (there l i) by unfold isB; rw [hthl]] at HP; have HBW := hide (hb.trans (h3.mono hb.size)); clear h1 h3)
          | (go_at_call 53; refine HP.out.mono ?_; rintro e w3 ⟨rfl, rfl⟩))
        go_ret3
        refine ⟨?_, HBW.out⟩
        rw [HS.out, if_neg (by simp [HBZ.out]), if_pos HB0.out, if_pos (by omega)]
        rfl
    · go_wp2
      go_ret3
      refine ⟨?_, hb⟩
      rw [HS.out, if_neg (by simp [H0.out (by omega)]), if_neg (by simp [H3.out (Nat.le_refl _)])]
      rfl

theorem readHeader_any (a : Option Addr) (n cap : Nat) (x : Int) (l : List Nat) (w : World) (hr : Rd w a n l) (hnc : n ≤ cap) (hcap : n ≤ 281474976710656) (hnil : a = none → cap = 0) :
    Calls Try.prog 49 #[.slice a n cap, .int .i64 x] w fun e w' => e = .returned (trip (rdH l x)) ∧ Below w.heap.size w w' := by
  by_cases h0 : 0 ≤ x
  · obtain ⟨i, rfl⟩ := Int.eq_ofNat_of_zero_le h0
    by_cases hi : i ≤ n
    · by_cases hc : cap = i
      · exact readHeader_end a n cap i l w hr hi hnc hcap hc
      · obtain ⟨y, rfl⟩ : ∃ y, a = some y := by
          cases a with
          | none => have := hnil rfl; omega
          | some y => exact ⟨y, rfl⟩
        by_cases h8 : 8 < n - i
        · exact readHeader_big y n cap i l w hr hi hnc hcap hc h8
        · by_cases h9 : n - i = 8
          · exact readHeader_eq y n cap i l w hr hi hnc hcap hc (by omega) (by omega)
          · exact readHeader_less y n cap i l w hr hi hnc hcap hc (by omega)
    · have HS : Hid (rdH l (i : Int) = (0, 0, 1)) := by show _ = _; unfold rdH; rw [if_pos (by rw [hr.1]; omega)]
      clear hr
      go_enter Try.func49, Try.ntmps49
      go_wp2
      go_ret3
      exact ⟨by rw [HS.out]; rfl, Below.refl _ _⟩
  · have HS : Hid (rdH l x = (0, 0, 1)) := by show _ = _; unfold rdH; rw [if_pos (by omega)]
    clear hr
    go_enter Try.func49, Try.ntmps49
    go_wp2
    go_ret3
    exact ⟨by rw [HS.out]; rfl, Below.refl _ _⟩
end Go.Proofs.Ytaijcnkmklibcaa
