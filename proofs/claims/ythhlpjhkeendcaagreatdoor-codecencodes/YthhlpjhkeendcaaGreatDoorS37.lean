/- CWhole, CShort, CAwake -/
import Derived.Test.YthhlpjhkeendcaaGreatDoorS36
import Derived.Test.YthhlpjhkeendcaaGreatDoorS34
import Derived.Test.YthhlpjhkeendcaaGreatDoorS08
import Derived.Laws.IdiomStrings
namespace Go.Proofs.YthhlpjhkeendcaaGreatDoor
open Go.RowKit
set_option linter.unusedVariables false
set_option linter.unusedSimpArgs false
theorem mkS_list (l : List Nat) : (mkS l).toList = l.map UInt8.ofNat := by
  rw [ByteArray.toList_eq]
  simp [mkS]
theorem mkS_inj {l m : List Nat} (hl : ∀ c ∈ l, c < 256) (hm : ∀ c ∈ m, c < 256) (h : l.map UInt8.ofNat = m.map UInt8.ofNat) : l = m := by
  have e : ∀ k : List Nat, (∀ c ∈ k, c < 256) → (k.map UInt8.ofNat).map UInt8.toNat = k := fun k hk => by
    rw [List.map_map]
    conv => rhs; rw [← List.map_id k]
    refine List.map_congr_left fun c hc => ?_
    have := hk c hc
    simp
    omega
  rw [← e l hl, ← e m hm, h]
theorem mkS_beq (l m : List Nat) (hl : ∀ c ∈ l, c < 256) (hm : ∀ c ∈ m, c < 256) : ((mkS l).toList == (mkS m).toList) = decide (l = m) := by
  rw [mkS_list, mkS_list, Bool.eq_iff_iff]
  simp only [beq_iff_eq, decide_eq_true_eq]
  exact ⟨mkS_inj hl hm, fun h => by rw [h]⟩
theorem conv8 {w : World} {a : Option Addr} {n : Nat} {l : List Nat} (h : Rd w a n l) (hn : 0 < n) (cap : Nat) : (convert 28 9 (.slice a n cap)).run Tryz.prog w = .ok (.string (mkS l)) w := by
  obtain ⟨b, off, rfl, hlt, hc⟩ := h.2.2 hn
  have hr := run_convert_bytes_back (P := Tryz.prog) w 28 9 5 ⟨b, off, none⟩ cap (l.map UInt8.ofNat) Tryz.underlying28 Tryz.underlying5 Tryz.underlying9 (fun j hj => by
    rw [List.length_map] at hj
    have e1 : (⟨b, off, none⟩ : Addr).add j = ⟨b, off + j, none⟩ := by by_cases h : j = 0 <;> simp [Addr.add, h]
    rw [e1, hc j (by rw [← h.1]; exact hj)]
    have : l[j] < 256 := h.2.1 _ (List.getElem_mem hj)
    simp [List.getD_eq_getElem?_getD, List.getElem?_eq_getElem hj]
    omega)
  rw [List.length_map, h.1] at hr
  rw [hr]
  rfl
theorem bytesEqual_any (a a' : Option Addr) (n n' cap cap' : Nat) (l l' : List Nat) (w : World) (h : Rd w a n l) (h' : Rd w a' n' l') (hn : 0 < n) (hn' : 0 < n') :
    Calls Tryz.prog 30 #[.slice a n cap, .slice a' n' cap'] w fun e w' => e = .returned (.bool (decide (l = l'))) ∧ w = w' := by
  have c1 := conv8 h hn cap
  have c2 := conv8 h' hn' cap'
  have HB := hide (mkS_beq l l' h.2.1 h'.2.1)
  clear h h'
  go_enter Tryz.func30, Tryz.ntmps30
  go_wp2
  go_ret
  refine ⟨?_, rfl⟩
  rw [← HB.out]
  rfl
theorem bel5 {B b : Nat} {w W : World} (h : Below B w W) (hb : B ≤ b) (u0 u1 u2 u3 u4 : Value) : Below B w (((((W.setCell ⟨b, 0, none⟩ u0).setCell ⟨b, 1, none⟩ u1).setCell ⟨b, 2, none⟩ u2).setCell ⟨b, 3, none⟩ u3).setCell ⟨b, 4, none⟩ u4) :=
  ((((h.setCell (p := ⟨b, 0, none⟩) hb u0).setCell (p := ⟨b, 1, none⟩) hb u1).setCell (p := ⟨b, 2, none⟩) hb u2).setCell (p := ⟨b, 3, none⟩) hb u3).setCell (p := ⟨b, 4, none⟩) hb u4
theorem five_far {W : World} {b b' : Nat} (h : b' ≠ b) (u0 u1 u2 u3 u4 : Value) : (((((W.setCell ⟨b, 0, none⟩ u0).setCell ⟨b, 1, none⟩ u1).setCell ⟨b, 2, none⟩ u2).setCell ⟨b, 3, none⟩ u3).setCell ⟨b, 4, none⟩ u4).heap[b']? = W.heap[b']? := by
  rw [heap_far h, heap_far h, heap_far h, heap_far h, heap_far h]
theorem five_size (W : World) (b : Nat) (u0 u1 u2 u3 u4 : Value) : (((((W.setCell ⟨b, 0, none⟩ u0).setCell ⟨b, 1, none⟩ u1).setCell ⟨b, 2, none⟩ u2).setCell ⟨b, 3, none⟩ u3).setCell ⟨b, 4, none⟩ u4).heap.size = W.heap.size := by simp
def rwhole (l : List Nat) : Res T := match rdec badB twiceW l 0 with
  | .error x => .error x
  | .ok (v, q) => if q < l.length then .error ((q : Int), 35) else .ok v
def WholeOut (r : Res T) (w : World) (e : Ending) (w' : World) : Prop :=
  match r with
  | .error x => e = .returned (.tuple #[.agg #[.int .i64 0, .int .u64 0, .string ⟨#[]⟩, .slice none 0 0, .int .i64 0], .int .i64 x.1, .int .i64 x.2]) ∧ Below w.heap.size w w'
  | .ok t => (∃ y : V, e = .returned (.tuple #[.agg #[.int .i64 y.k, .int .u64 y.n, .string y.s, .slice y.a y.l.length y.c, .int .i64 y.e], .int .i64 0, .int .i64 0]) ∧ Hid (y.t = t ∧ LiesIn (fun b => w.heap.size ≤ b ∧ b < w'.heap.size) w' y)) ∧ Below w.heap.size w w'
set_option maxRecDepth 100000 in
set_option maxHeartbeats 6000000 in
theorem whole_of (a : Option Addr) (n cap : Nat) (l : List Nat) (w : World) (hln : l.length = n) (hsm : n ≤ 281474976710656) (hne : ∀ x, rdec badB twiceW l 0 = .error x → x.2 ≠ 0) (hD : ∀ W1, Below w.heap.size w W1 → Calls Tryz.prog 15 #[.slice a n cap, .int .i64 0] W1 (DecOut (rdec badB twiceW l 0) 0 n W1)) :
    Calls Tryz.prog 16 #[.slice a n cap] w (WholeOut (rwhole l) w) := by
  have HD := hide hD
  clear hD
  have hbx := bel1 (Below.refl w.heap.size w) (Nat.le_refl _) (Obj.cells #[.int .i64 0, .int .u64 0, .string ⟨#[]⟩, .slice none 0 0, .int .i64 0] 25)
  unfold rwhole
  rw [hln]
  clear hln
  cases hrd : rdec badB twiceW l 0 with
  | error x =>
    have hx2 : (x.2 == 0) = false := by rw [beq_eq_false_iff_ne]; exact hne x hrd
    rw [hrd] at HD
    have HD2 : Hid (∀ W1, Below w.heap.size w W1 → Calls Tryz.prog 15 #[.slice a n cap, .int .i64 0] W1 fun e w' => e = .returned (.tuple #[.agg #[.int .i64 0, .int .u64 0, .string ⟨#[]⟩, .slice none 0 0, .int .i64 0], .int .i64 x.1, .int .i64 x.2]) ∧ Below W1.heap.size W1 w') := HD.out
    clear HD hrd hne
    simp only
    go_enter Tryz.func16, Tryz.ntmps16
    go_wp2_with fail
    refine Calls.mono (HD2.out _ hbx) ?_
    rintro e1 w1 ⟨rfl, hb1⟩
    have hq := (hb1.block w.heap.size (by simp)).trans (World.alloc_heap_new w (Obj.cells #[.int .i64 0, .int .u64 0, .string ⟨#[]⟩, .slice none 0 0, .int .i64 0] 25))
    have k0 := cells_at hq 0
    have k1 := cells_at hq 1
    have k2 := cells_at hq 2
    have k3 := cells_at hq 3
    have k4 := cells_at hq 4
    have z0 := free_at hq
    simp only [List.getElem?_toArray, List.getElem?_cons_zero, List.getElem?_cons_succ] at k0 k1 k2 k3 k4
    have hb2 := belOn hbx (by simp) hb1
    have hz1 : w.heap.size < w1.heap.size := by have := hb1.size; simp at this; omega
    clear hq hb1
    go_wp2
    refine bodyPost_ret (v := .tuple #[.agg #[.int .i64 0, .int .u64 0, .string ⟨#[]⟩, .slice none 0 0, .int .i64 0], .int .i64 x.1, .int .i64 x.2]) ?_ rfl ⟨rfl, ?_⟩
    · simp [results, Tryz.results16, go_sem, k0, k1, k2, k3, k4, hz1]
    · exact (bel5 hb2 (Nat.le_refl _) _ _ _ _ _).alloc (by rw [five_size]; omega) _
  | ok tq =>
    obtain ⟨t, q⟩ := tq
    rw [hrd] at HD
    have HD2 : Hid (∀ W1, Below w.heap.size w W1 → Calls Tryz.prog 15 #[.slice a n cap, .int .i64 0] W1 fun e w' => (∃ y : V, e = .returned (.tuple #[.agg #[.int .i64 y.k, .int .u64 y.n, .string y.s, .slice y.a y.l.length y.c, .int .i64 y.e], .int .i64 (q : Int), .int .i64 0]) ∧ Hid (y.t = t ∧ LiesIn (fun b => W1.heap.size ≤ b ∧ b < w'.heap.size) w' y ∧ 0 ≤ q ∧ q ≤ n)) ∧ Below W1.heap.size W1 w') := HD.out
    clear HD hrd hne
    simp only
    by_cases hqn : q < n
    · rw [if_pos hqn]
      have hqn' : (q : Int) < (n : Int) := by omega
      go_enter Tryz.func16, Tryz.ntmps16
      go_wp2_with fail
      refine Calls.mono (HD2.out _ hbx) ?_
      rintro e1 w1 ⟨⟨y, rfl, HY⟩, hb1⟩
      have hq := (hb1.block w.heap.size (by simp)).trans (World.alloc_heap_new w (Obj.cells #[.int .i64 0, .int .u64 0, .string ⟨#[]⟩, .slice none 0 0, .int .i64 0] 25))
      have k0 := cells_at hq 0
      have k1 := cells_at hq 1
      have k2 := cells_at hq 2
      have k3 := cells_at hq 3
      have k4 := cells_at hq 4
      have z0 := free_at hq
      simp only [List.getElem?_toArray, List.getElem?_cons_zero, List.getElem?_cons_succ] at k0 k1 k2 k3 k4
      have hb2 := belOn hbx (by simp) hb1
      have hz1 : w.heap.size < w1.heap.size := by have := hb1.size; simp at this; omega
      clear hq hb1
      go_wp2
      refine bodyPost_ret (v := .tuple #[.agg #[.int .i64 0, .int .u64 0, .string ⟨#[]⟩, .slice none 0 0, .int .i64 0], .int .i64 (q : Int), .int .i64 35]) ?_ rfl ⟨rfl, ?_⟩
      · simp [results, Tryz.results16, go_sem, k0, k1, k2, k3, k4, hz1]
      · exact (bel5 hb2 (Nat.le_refl _) _ _ _ _ _).alloc (by rw [five_size]; omega) _
    · rw [if_neg hqn]
      have hqn' : ¬ (q : Int) < (n : Int) := by omega
      go_enter Tryz.func16, Tryz.ntmps16
      go_wp2_with fail
      refine Calls.mono (HD2.out _ hbx) ?_
      rintro e1 w1 ⟨⟨y, rfl, HY⟩, hb1⟩
      have hq := (hb1.block w.heap.size (by simp)).trans (World.alloc_heap_new w (Obj.cells #[.int .i64 0, .int .u64 0, .string ⟨#[]⟩, .slice none 0 0, .int .i64 0] 25))
      have k0 := cells_at hq 0
      have k1 := cells_at hq 1
      have k2 := cells_at hq 2
      have k3 := cells_at hq 3
      have k4 := cells_at hq 4
      have z0 := free_at hq
      simp only [List.getElem?_toArray, List.getElem?_cons_zero, List.getElem?_cons_succ] at k0 k1 k2 k3 k4
      have hb2 := belOn hbx (by simp) hb1
      have hz1 : w.heap.size < w1.heap.size := by have := hb1.size; simp at this; omega
      clear hq hb1
      go_wp2
      obtain ⟨g1, g2, _, _⟩ := HY.out
      refine bodyPost_ret (v := .tuple #[.agg #[.int .i64 y.k, .int .u64 y.n, .string y.s, .slice y.a y.l.length y.c, .int .i64 y.e], .int .i64 0, .int .i64 0]) ?_ rfl ⟨⟨y, rfl, g1, g2.keep (fun b hb o => ?_) (fun b hb => ?_)⟩, ?_⟩
      · simp [results, Tryz.results16, go_sem, k0, k1, k2, k3, k4, hz1]
      · simp only [World.size_alloc] at hb
        have hbn : b ≠ w.heap.size := by omega
        refine (World.cell?_alloc_past _ _ _ (by rw [five_size]; exact hb.2)).trans (World.cell?_of_block (five_far hbn _ _ _ _ _))
      · simp only [World.size_alloc] at hb ⊢
        rw [five_size]
        omega
      · exact (bel5 hb2 (Nat.le_refl _) _ _ _ _ _).alloc (by rw [five_size]; omega) _
theorem Rd.below {w w' : World} {a : Option Addr} {n : Nat} {l : List Nat} (h : Rd w a n l) (hb : Below w.heap.size w w') : Rd w' a n l := by
  obtain ⟨h1, h2, h3⟩ := h
  refine ⟨h1, h2, fun hn => ?_⟩
  obtain ⟨b, off, ha, hlt, hc⟩ := h3 hn
  exact ⟨b, off, ha, Nat.lt_of_lt_of_le hlt hb.size, fun j hj => (hb.cell (p := ⟨b, off + j, none⟩) hlt).trans (hc j hj)⟩
theorem Buf.rd {w : World} {g cap : Nat} {l : List Nat} (h : Buf w g cap l) (hb : ∀ c ∈ l, c < 256) : Rd w (some ⟨g, 0, none⟩) l.length l := by
  refine ⟨rfl, hb, fun _ => ⟨g, 0, rfl, h.lt, fun j hj => ?_⟩⟩
  rw [Nat.zero_add, World.ownsRow.cellAt h j (by omega), List.getElem?_map, List.getElem?_eq_getElem hj]
  simp [bV, List.getD_eq_getElem?_getD, List.getElem?_eq_getElem hj]
theorem encE_iff (n₀ : Nat) (w : World) (y : V) (hl : Lies n₀ w y) : encE y = 0 ↔ Gd badB twiceW y.t 32 ∧ T.len y.t ≤ 1048576 := by
  have hc := check_iff n₀ w y hl
  unfold encE chkE
  by_cases h : firstE checkZ (V.all 1 y) = 0
  · simp only [h, ne_eq, not_true_eq_false, if_false]
    constructor
    · intro h2
      refine ⟨hc.1 h, ?_⟩
      split at h2 <;> omega
    · rintro ⟨_, h2⟩
      rw [if_neg (by omega)]
  · simp only [ne_eq, h, not_false_eq_true, if_true]
    constructor
    · intro h2
      first | exact absurd h2 h | exact h2.elim
    · intro h2
      exact absurd (hc.2 h2.1) h
def shortP (l : List Nat) : Prop := ∃ t, rwhole l = .ok t ∧ Gd badB twiceW t 32 ∧ T.len t ≤ 1048576 ∧ T.enc t = l
set_option maxRecDepth 100000 in
set_option maxHeartbeats 4000000 in
theorem shortest_of (a : Option Addr) (n cap : Nat) (l : List Nat) (w : World) (hB : Bts w a n cap l) (hn : 0 < n) (hne : ∀ x, rwhole l = .error x → x.2 ≠ 0) (hwt : ∀ t, rwhole l = .ok t → T.wt t ≤ 5000000) (hW : Calls Tryz.prog 16 #[.slice a n cap] w (WholeOut (rwhole l) w)) :
    Calls Tryz.prog 17 #[.slice a n cap] w fun e w' => ∃ b : Bool, e = .returned (.bool b) ∧ Hid (b = true ↔ shortP l) ∧ Below w.heap.size w w' := by
  have HW := hide hW
  have HB := hide hB
  clear hW hB
  cases hrw : rwhole l with
  | error x =>
    have hx2 : (x.2 == 0) = false := by rw [beq_eq_false_iff_ne]; exact hne x hrw
    rw [hrw] at HW
    have HP : Hid (¬ shortP l) := fun ⟨t, h, _⟩ => by rw [hrw] at h; cases h
    have HW2 : Hid (Calls Tryz.prog 16 #[.slice a n cap] w fun e w' => e = .returned (.tuple #[.agg #[.int .i64 0, .int .u64 0, .string ⟨#[]⟩, .slice none 0 0, .int .i64 0], .int .i64 x.1, .int .i64 x.2]) ∧ Below w.heap.size w w') := HW.out
    clear HW hrw hne hwt
    go_enter Tryz.func17, Tryz.ntmps17
    go_wp2_with fail
    refine Calls.mono HW2.out ?_
    rintro e1 w1 ⟨rfl, hb1⟩
    go_wp2
    go_ret
    exact ⟨false, rfl, ⟨(fun h => by cases h), (fun h => absurd h HP.out)⟩, bel1 hb1 hb1.size _⟩
  | ok t =>
    rw [hrw] at HW
    have HW2 : Hid (Calls Tryz.prog 16 #[.slice a n cap] w fun e w' => (∃ y : V, e = .returned (.tuple #[.agg #[.int .i64 y.k, .int .u64 y.n, .string y.s, .slice y.a y.l.length y.c, .int .i64 y.e], .int .i64 0, .int .i64 0]) ∧ Hid (y.t = t ∧ LiesIn (fun b => w.heap.size ≤ b ∧ b < w'.heap.size) w' y)) ∧ Below w.heap.size w w') := HW.out
    have hw := hwt t hrw
    have HP : Hid (shortP l ↔ Gd badB twiceW t 32 ∧ T.len t ≤ 1048576 ∧ T.enc t = l) := ⟨fun ⟨t', h, h2⟩ => by rw [hrw] at h; cases h; exact h2, fun h => ⟨t, hrw, h⟩⟩
    clear HW hrw hne hwt
    go_enter Tryz.func17, Tryz.ntmps17
    go_wp2_with fail
    refine Calls.mono HW2.out ?_
    rintro e1 w1 ⟨⟨y, rfl, HY⟩, hb1⟩
    have hba := bel1 hb1 hb1.size (Obj.cells #[.int .i64 y.k, .int .u64 y.n, .string y.s, .slice y.a y.l.length y.c, .int .i64 y.e] 25)
    have hly : Lies w1.heap.size (w1.alloc (Obj.cells #[.int .i64 y.k, .int .u64 y.n, .string y.s, .slice y.a y.l.length y.c, .int .i64 y.e] 25)) y := HY.out.2.keep (fun b hb o => World.cell?_alloc_past _ _ _ hb.2) (fun b hb => hb.2)
    have hen := encode_any y w1.heap.size _ (by simp) hly (HB.out.tab.below hba) (tabs_below HB.out.utf hba) (by rw [HY.out.1]; exact hw)
    have HEI := hide (encE_iff _ _ y hly)
    rw [V.val_eq] at hen
    have HEN := hide hen
    have hbd := hb1.size
    clear hen hly hb1
    go_wp2_with fail
    refine Calls.mono HEN.out ?_
    rintro e2 w2 (⟨hz, rfl, hb2⟩ | ⟨hz, g, rfl, HG, hb2⟩)
    · have hzb : (encE y == 0) = false := by rw [beq_eq_false_iff_ne]; exact hz
      have HZ := hide hz
      have hbf := belOn hba (by simp; omega) hb2
      clear hz hb2
      go_wp2
      go_ret
      refine ⟨false, ?_, ⟨(fun h => by cases h), (fun h => ?_)⟩, hbf⟩
      · rfl
      · have h3 := HP.out.1 h
        rw [← HY.out.1] at h3
        exact absurd (HEI.out.2 ⟨h3.1, h3.2.1⟩) HZ.out
    · obtain ⟨hg1, hg2, hg3, hg4, hg5⟩ := HG.out
      have hbf := belOn hba (by simp; omega) hb2
      have hrd2 := hg2.rd (enc_lt y.t)
      rw [hg3] at hrd2
      have HBE := hide (bytesEqual_any (some ⟨g, 0, none⟩) a (T.len y.t) n (T.len y.t) cap (T.enc y.t) l w2 hrd2 (HB.out.rd.below hbf) (by unfold T.len; omega) hn)
      clear hz hb2 hg2 hrd2
      go_wp2_with fail
      refine Calls.mono HBE.out ?_
      rintro e3 w3 ⟨rfl, rfl⟩
      go_wp2
      go_ret
      refine ⟨decide (T.enc y.t = l), rfl, ?_, hbf⟩
      have e4 := HP.out
      rw [← HY.out.1] at e4
      show _ ↔ _
      rw [e4, decide_eq_true_eq]
      exact ⟨fun h => ⟨hg4, hg5, h⟩, fun h => h.2.2⟩
theorem tabs_three {w : World} (h : Lib.Utf8Tabs 1 2 w) : 3 ≤ w.heap.size := by
  have l1 := block_lt_of_cell (h.2 0 (by omega)).1
  have : 2 < w.heap.size := l1
  omega
theorem bts_new (w : World) (l : List Nat) (hl : ∀ c ∈ l, c < 256) (hs : l.length ≤ 1000) (hT : SzTab w) (hU : Lib.Utf8Tabs 1 2 w) : Bts (w.alloc (.cells (l.map bV).toArray 5)) (some ⟨w.heap.size, 0, none⟩) l.length l.length l := by
  have hb := bel1 (Below.refl w.heap.size w) (Nat.le_refl _) (.cells (l.map bV).toArray 5)
  refine ⟨⟨rfl, hl, fun _ => ⟨w.heap.size, 0, rfl, by simp, fun j hj => ?_⟩⟩, Nat.le_refl _, by omega, fun _ x hx => by cases hx; simp, hT.below hb, tabs_below hU hb, by have := tabs_three hU; simp; omega⟩
  have hh := World.alloc_heap_new w (.cells (l.map bV).toArray 5)
  rw [Nat.zero_add]
  rw [cells_at hh j]
  simp [List.getElem?_map, List.getElem?_eq_getElem hj, bV, List.getD_eq_getElem?_getD]
theorem decode_leaf (a : Option Addr) (n cap p : Nat) (l : List Nat) (w : World) (c k : Nat) (hB : Bts w a n cap l) (hp : p + 1 ≤ n) (hc : getN ((l.drop p).take 1) = c) (hk : kindC c = some k) (hc2 : c < 256) (hk2 : k ≤ 24) (hlay : c / 16 = 4 ∨ c / 16 = 5 ∨ c / 16 = 6 ∨ c / 16 = 7 ∨ c / 16 = 8) :
    Calls Tryz.prog 15 #[.slice a n cap, .int .i64 (p : Int)] w (DecOut (rdec badB twiceW l p) p n w) := by
  refine decode_of a n cap p l w hB (by omega) ?_
  refine val_of 32 _ a n cap p n (-1) l _ (hB.src p) (decW_boxes w a n cap p).2.2.2 (by omega) (Nat.le_refl _) ?_
  intro c' k' h1 h2 _
  unfold rnum at h1
  rw [if_pos hp, hc] at h1
  cases h1
  rw [hk] at h2
  cases h2
  rcases hlay with h | h
  · exact dat_none 32 k c (by omega) hc2 hk2 h
  · exact dat_num 32 k c (by omega) hc2 hk2 h
theorem Bts.below {w w' : World} {a : Option Addr} {n cap : Nat} {l : List Nat} (h : Bts w a n cap l) (hb : Below w.heap.size w w') : Bts w' a n cap l :=
  ⟨h.rd.below hb, h.room, h.small, fun h0 x hx => Nat.lt_of_lt_of_le (h.apart h0 x hx) hb.size, h.tab.below hb, tabs_below h.utf hb, Nat.le_trans h.pos hb.size⟩
theorem rd1 : rdec badB twiceW [64, 86, 1] 1 = .ok (T.of 1 1 e0 0 [], 3) := by
  have hk : kindC 86 = some 1 := by decide
  have hd : rdat badB twiceW [64, 86, 1] 32 1 86 1 2 3 (-1) = .ok (T.of 1 1 e0 0 [], 3) := by
    rw [show (32 : Nat) = 31 + 1 from rfl, rdat]
    simp [rnumber, rnum, nwid, getN, formC]
  unfold rdec rval rvalG rnum
  simp [getN, hk, hd]
theorem rd2 : rdec badB twiceW [64, 64] 0 = .ok (T.of 0 0 e0 0 [], 1) := by
  have hk : kindC 64 = some 0 := by decide
  have hd : rdat badB twiceW [64, 64] 32 0 64 0 1 2 (-1) = .ok (T.of 0 0 e0 0 [], 1) := by
    rw [show (32 : Nat) = 31 + 1 from rfl, rdat]
    simp
  unfold rdec rval rvalG rnum
  simp [getN, hk, hd]
theorem rd3 : rdec badB twiceW [82, 255] 0 = .ok (T.of 4 255 e0 0 [], 2) := by
  have hk : kindC 82 = some 4 := by decide
  have hd : rdat badB twiceW [82, 255] 32 4 82 0 1 2 (-1) = .ok (T.of 4 255 e0 0 [], 2) := by
    rw [show (32 : Nat) = 31 + 1 from rfl, rdat]
    simp [rnumber, rnum, nwid, getN, formC]
  unfold rdec rval rvalG rnum
  simp [getN, hk, hd]
theorem rd4 : rdec badB twiceW [112, 0, 0, 0, 255] 0 = .ok (T.of 4 255 e0 0 [], 5) := by
  have hk : kindC 112 = some 4 := by decide
  have hd : rdat badB twiceW [112, 0, 0, 0, 255] 32 4 112 0 1 5 (-1) = .ok (T.of 4 255 e0 0 [], 5) := by
    rw [show (32 : Nat) = 31 + 1 from rfl, rdat]
    simp [rnumber, rnum, nwid, getN, formC]
  unfold rdec rval rvalG rnum
  simp [getN, hk, hd]
theorem own_leaf (k n : Int) (hk : 0 ≤ k ∧ k < 10) (hn : 0 ≤ n ∧ n ≤ 255) (h0 : k = 0 → n = 0) (h1 : k = 1 → n ≤ 1) (h6 : k = 6 → n ≤ 127) : OwnG badB twiceW k n e0 0 [] where
  k0 := hk.1
  k1 := by omega
  n0 := hn.1
  n1 := by omega
  isNull := h0
  isText := fun h => by omega
  isList := fun h => by omega
  isArr := fun h => by omega
  isNum := fun _ => ⟨rfl, rfl, rfl⟩
  num := ⟨h1, by omega, by omega, by omega, by omega, by omega, by omega, by omega⟩
  six := fun h => by omega
  utf := fun h => by omega
  map := fun h => by omega
  desc := fun h => by omega
theorem enc_u : T.enc (T.of 4 255 e0 0 []) = [82, 255] ∧ T.len (T.of 4 255 e0 0 []) = 2 ∧ Gd badB twiceW (T.of 4 255 e0 0 []) 32 ∧ T.wt (T.of 4 255 e0 0 []) = 1 := by
  have hb : T.body (T.of 4 255 e0 0 []) = 0 := body_none _ _ _ _ _ _ (by omega)
  have hc : T.code (T.of 4 255 e0 0 []) = 82 := by
    unfold T.code
    rw [hb]
    show codeG 4 255 ([] : List V).length 0 = 82
    decide
  refine ⟨?_, ?_, ?_, ?_⟩
  · unfold T.enc
    rw [hc, T.of, data_of]
    decide
  · unfold T.len
    rw [hc, hb]
    decide
  · rw [T.of, Gd_of]
    exact ⟨by omega, own_leaf 4 255 (by omega) (by omega) (by omega) (by omega) (by omega), by simp⟩
  · rw [T.wt_of]
    rfl
theorem wh2 : rwhole [64, 64] = .error (1, 35) := by unfold rwhole; rw [rd2]; simp
theorem wh3 : rwhole [82, 255] = .ok (T.of 4 255 e0 0 []) := by unfold rwhole; rw [rd3]; simp
theorem wh4 : rwhole [112, 0, 0, 0, 255] = .ok (T.of 4 255 e0 0 []) := by unfold rwhole; rw [rd4]; simp
theorem sh3 : shortP [82, 255] := ⟨_, wh3, enc_u.2.2.1, by rw [enc_u.2.1]; omega, enc_u.1⟩
theorem sh4 : ¬ shortP [112, 0, 0, 0, 255] := by
  rintro ⟨t, h, _, _, h2⟩
  rw [wh4] at h
  cases h
  rw [enc_u.1] at h2
  simp at h2
def exV (b : Nat) : V := V.of 21 0 e0 (some ⟨b, 0, none⟩) 2 0 [V.of 1 1 e0 none 0 0 [], V.of 4 1 e0 none 0 0 []]
def exT : T := T.of 21 0 e0 0 [T.of 1 1 e0 0 [], T.of 4 1 e0 0 []]
theorem exV_t (b : Nat) : (exV b).t = exT := by
  unfold exV exT
  rw [V.t_of]
  simp only [V.ts, V.t_of]
theorem ex_enc : T.enc exT = [192, 4, 2, 65, 82, 1] ∧ T.len exT = 6 ∧ Gd badB twiceW exT 32 ∧ T.wt exT ≤ 100 := by
  have b1 : T.body (T.of 1 1 e0 0 []) = 0 := body_none _ _ _ _ _ _ (by omega)
  have b4 : T.body (T.of 4 1 e0 0 []) = 0 := body_none _ _ _ _ _ _ (by omega)
  have c1 : T.code (T.of 1 1 e0 0 []) = 65 := by unfold T.code; rw [b1]; show codeG 1 1 ([] : List V).length 0 = 65; decide
  have c4 : T.code (T.of 4 1 e0 0 []) = 82 := by unfold T.code; rw [b4]; show codeG 4 1 ([] : List V).length 0 = 82; decide
  have n1 : T.enc (T.of 1 1 e0 0 []) = [65] := by unfold T.enc; rw [c1, T.of, data_of]; decide
  have n4 : T.enc (T.of 4 1 e0 0 []) = [82, 1] := by unfold T.enc; rw [c4, T.of, data_of]; decide
  have l1 : T.len (T.of 1 1 e0 0 []) = 1 := by unfold T.len; rw [c1, b1]; decide
  have l4 : T.len (T.of 4 1 e0 0 []) = 2 := by unfold T.len; rw [c4, b4]; decide
  have hb : T.body exT = 3 := by
    unfold exT
    rw [T.of, body_enc _ _ _ _ _ _ _ (by omega)]
    simp [l1, l4]
  have hc : T.code exT = 192 := by
    unfold T.code
    rw [hb]
    show codeG 21 0 (V.l exT).length 3 = 192
    rw [show V.l exT = [T.of 1 1 e0 0 [], T.of 4 1 e0 0 []] from V.l_of _ _ _ _ _ _ _]
    decide
  refine ⟨?_, ?_, ?_, ?_⟩
  · unfold T.enc
    rw [hc]
    have : T.data exT 192 = [4, 2, 65, 82, 1] := by
      have hbx := hb
      unfold exT at hbx ⊢
      rw [T.of] at hbx ⊢
      rw [data_of, hbx]
      simp only [encs, List.map_cons, List.map_nil, n1, n4]
      decide
    rw [this]
  · unfold T.len
    rw [hc, hb]
    decide
  · unfold exT
    rw [T.of, Gd_of]
    refine ⟨by omega, ⟨by omega, by omega, by omega, by omega, fun _ => rfl, fun h => by omega, fun _ => ⟨rfl, rfl, rfl⟩, fun h => by omega, fun h => by omega, ⟨by omega, by omega, by omega, by omega, by omega, by omega, by omega, by omega⟩, fun h => by omega, fun h => by omega, fun h => by omega, fun h => by omega⟩, fun x hx => ?_⟩
    simp only [List.mem_cons, List.not_mem_nil, or_false] at hx
    rcases hx with rfl | rfl
    · rw [T.of, Gd_of]
      exact ⟨by omega, own_leaf 1 1 (by omega) (by omega) (by omega) (by omega) (by omega), by simp⟩
    · rw [T.of, Gd_of]
      exact ⟨by omega, own_leaf 4 1 (by omega) (by omega) (by omega) (by omega) (by omega), by simp⟩
  · unfold exT
    rw [T.wt_of]
    simp only [T.wts, T.wt_of]
    decide
theorem ex_lies (w W : World) (h : W.heap[w.heap.size]? = some (.cells #[.int .i64 1, .int .u64 1, .string ⟨#[]⟩, .slice none 0 0, .int .i64 0, .int .i64 4, .int .u64 1, .string ⟨#[]⟩, .slice none 0 0, .int .i64 0] 25)) (hz : w.heap.size < W.heap.size) : Lies W.heap.size W (exV w.heap.size) := by
  refine .mk ⟨by decide, by decide, by decide, by decide, by decide, by decide⟩ (fun _ => ⟨w.heap.size, 0, rfl, hz, fun i hi => ?_⟩) (fun x hx => ?_)
  · have : i = 0 ∨ i = 1 := by simp at hi; omega
    rcases this with rfl | rfl <;> simp [World.cell?, h, V.k_of, V.n_of, V.s_of, V.a_of, V.l_of, V.c_of, V.e_of, e0]
  · simp only [List.mem_cons, List.not_mem_nil, or_false] at hx
    rcases hx with rfl | rfl
    · exact lies_leaf _ _ _ _ _ (by omega) (by omega) (by decide)
    · exact lies_leaf _ _ _ _ _ (by omega) (by omega) (by decide)
theorem aw_dec (w : World) (hT : SzTab w) (hU : Lib.Utf8Tabs 1 2 w) : Calls Tryz.prog 15 #[.slice (some ⟨w.heap.size, 0, none⟩) 3 3, .int .i64 1] (w.alloc (.cells #[.int .u8 64, .int .u8 86, .int .u8 1] 5)) fun e w' => ∃ s b len c x, e = .returned (.tuple #[.agg #[.int .i64 1, .int .u64 1, .string s, .slice b len c, .int .i64 x], .int .i64 3, .int .i64 0]) ∧ Below w.heap.size w w' := by
  have hB := bts_new w [64, 86, 1] (by decide) (by decide) hT hU
  have h := decode_leaf _ _ _ 1 _ _ 86 1 hB (by decide) (by decide) (by decide) (by decide) (by decide) (by decide)
  rw [rd1] at h
  refine Calls.mono h ?_
  rintro e w' ⟨⟨y, rfl, HY⟩, hb⟩
  have hy := HY.out.1
  have h1 := (tk_eq y).1
  have h2 := (tk_eq y).2
  rw [hy] at h1 h2
  have h1' : y.k = 1 := h1.symm
  have h2' : y.n = 1 := h2.symm
  refine ⟨y.s, y.a, y.l.length, y.c, y.e, by rw [h1', h2']; rfl, ?_⟩
  exact belOn (bel1 (Below.refl w.heap.size w) (Nat.le_refl _) _) (by simp) hb
theorem aw_whole (w : World) (hT : SzTab w) (hU : Lib.Utf8Tabs 1 2 w) : Calls Tryz.prog 16 #[.slice (some ⟨w.heap.size, 0, none⟩) 2 2] (w.alloc (.cells #[.int .u8 64, .int .u8 64] 5)) fun e w' => e = .returned (.tuple #[.agg #[.int .i64 0, .int .u64 0, .string ⟨#[]⟩, .slice none 0 0, .int .i64 0], .int .i64 1, .int .i64 35]) ∧ Below w.heap.size w w' := by
  have hB := bts_new w [64, 64] (by decide) (by decide) hT hU
  have h := whole_of (some ⟨w.heap.size, 0, none⟩) 2 2 [64, 64] (w.alloc (.cells #[.int .u8 64, .int .u8 64] 5)) rfl (by omega) (fun x hx => by rw [rd2] at hx; cases hx) (fun W1 hW => decode_leaf _ _ _ 0 _ W1 64 0 (hB.below hW) (by decide) (by decide) (by decide) (by decide) (by decide) (by decide))
  rw [wh2] at h
  refine Calls.mono h ?_
  rintro e w' ⟨rfl, hb⟩
  exact ⟨rfl, belOn (bel1 (Below.refl w.heap.size w) (Nat.le_refl _) _) (by simp) hb⟩
theorem aw_short3 (w : World) (hT : SzTab w) (hU : Lib.Utf8Tabs 1 2 w) : Calls Tryz.prog 17 #[.slice (some ⟨w.heap.size, 0, none⟩) 2 2] (w.alloc (.cells #[.int .u8 82, .int .u8 255] 5)) fun e w' => e = .returned (.bool true) ∧ Below w.heap.size w w' := by
  have hB := bts_new w [82, 255] (by decide) (by decide) hT hU
  have hw := whole_of (some ⟨w.heap.size, 0, none⟩) 2 2 [82, 255] (w.alloc (.cells #[.int .u8 82, .int .u8 255] 5)) rfl (by omega) (fun x hx => by rw [rd3] at hx; cases hx) (fun W1 hW => decode_leaf _ _ _ 0 _ W1 82 4 (hB.below hW) (by decide) (by decide) (by decide) (by decide) (by decide) (by decide))
  have h := shortest_of (some ⟨w.heap.size, 0, none⟩) 2 2 [82, 255] (w.alloc (.cells #[.int .u8 82, .int .u8 255] 5)) hB (by omega) (fun x hx => by rw [wh3] at hx; cases hx) (fun t ht => by rw [wh3] at ht; cases ht; rw [enc_u.2.2.2]; omega) hw
  refine Calls.mono h ?_
  rintro e w' ⟨b, rfl, HB, hb⟩
  have : b = true := HB.out.2 sh3
  exact ⟨by rw [this], belOn (bel1 (Below.refl w.heap.size w) (Nat.le_refl _) _) (by simp) hb⟩
theorem aw_short4 (w : World) (hT : SzTab w) (hU : Lib.Utf8Tabs 1 2 w) : Calls Tryz.prog 17 #[.slice (some ⟨w.heap.size, 0, none⟩) 5 5] (w.alloc (.cells #[.int .u8 112, .int .u8 0, .int .u8 0, .int .u8 0, .int .u8 255] 5)) fun e w' => e = .returned (.bool false) ∧ Below w.heap.size w w' := by
  have hB := bts_new w [112, 0, 0, 0, 255] (by decide) (by decide) hT hU
  have hw := whole_of (some ⟨w.heap.size, 0, none⟩) 5 5 [112, 0, 0, 0, 255] (w.alloc (.cells #[.int .u8 112, .int .u8 0, .int .u8 0, .int .u8 0, .int .u8 255] 5)) rfl (by omega) (fun x hx => by rw [rd4] at hx; cases hx) (fun W1 hW => decode_leaf _ _ _ 0 _ W1 112 4 (hB.below hW) (by decide) (by decide) (by decide) (by decide) (by decide) (by decide))
  have h := shortest_of (some ⟨w.heap.size, 0, none⟩) 5 5 [112, 0, 0, 0, 255] (w.alloc (.cells #[.int .u8 112, .int .u8 0, .int .u8 0, .int .u8 0, .int .u8 255] 5)) hB (by omega) (fun x hx => by rw [wh4] at hx; cases hx) (fun t ht => by rw [wh4] at ht; cases ht; rw [enc_u.2.2.2]; omega) hw
  refine Calls.mono h ?_
  rintro e w' ⟨b, rfl, HB, hb⟩
  have : b = false := by
    cases b with
    | false => rfl
    | true => exact absurd (HB.out.1 rfl) sh4
  exact ⟨by rw [this], belOn (bel1 (Below.refl w.heap.size w) (Nat.le_refl _) _) (by simp) hb⟩
set_option maxRecDepth 100000 in
set_option maxHeartbeats 4000000 in
theorem awake_any (w : World) (hT : SzTab w) (hU : Lib.Utf8Tabs 1 2 w) : Calls Tryz.prog 4 #[] w fun e w' => e = .returned (.bool true) ∧ Below w.heap.size w w' := by
  have HTB : Hid (∀ W1, Below w.heap.size w W1 → SzTab W1 ∧ Lib.Utf8Tabs 1 2 W1) := fun W1 hW => ⟨hT.below hW, tabs_below hU hW⟩
  clear hT hU
  obtain ⟨W0, hW0⟩ : ∃ W0, (w.alloc (Obj.cells #[.int .i64 1, .int .u64 1, .string ⟨#[]⟩, .slice none 0 0, .int .i64 0, .int .i64 4, .int .u64 1, .string ⟨#[]⟩, .slice none 0 0, .int .i64 0] 25)).alloc (Obj.cells #[.int .i64 21, .int .u64 0, .string ⟨#[]⟩, .slice (some ⟨w.heap.size, 0, none⟩) 2 2, .int .i64 0] 25) = W0 := ⟨_, rfl⟩
  have hb0 : Below w.heap.size w W0 := by rw [← hW0]; exact bel2 (Below.refl _ _) (Nat.le_refl _) _ _
  have hx0 : W0.heap[w.heap.size]? = some (.cells #[.int .i64 1, .int .u64 1, .string ⟨#[]⟩, .slice none 0 0, .int .i64 0, .int .i64 4, .int .u64 1, .string ⟨#[]⟩, .slice none 0 0, .int .i64 0] 25) := by rw [← hW0]; exact heap_past (World.alloc_heap_new _ _) _
  have hx1 : W0.heap[w.heap.size + 1]? = some (.cells #[.int .i64 21, .int .u64 0, .string ⟨#[]⟩, .slice (some ⟨w.heap.size, 0, none⟩) 2 2, .int .i64 0] 25) := by rw [← hW0]; exact heap_at1 _ _ _
  have hz0 : W0.heap.size = w.heap.size + 2 := by rw [← hW0]; simp
  have HLI : Hid (∀ W1, Below W0.heap.size W0 W1 → Lies W1.heap.size W1 (exV w.heap.size) ∧ Below w.heap.size w W1) := fun W1 hW => ⟨ex_lies w W1 ((hW.block _ (by omega)).trans hx0) (by have := hW.size; omega), belOn hb0 (by omega) hW⟩
  have HVX : Hid (∀ W1, Below W0.heap.size W0 W1 → W1.heap[w.heap.size + 1]? = some (.cells #[.int .i64 21, .int .u64 0, .string ⟨#[]⟩, .slice (some ⟨w.heap.size, 0, none⟩) 2 2, .int .i64 0] 25) ∧ w.heap.size + 1 < W1.heap.size) := fun W1 hW => ⟨(hW.block _ (by omega)).trans hx1, by have := hW.size; omega⟩
  have hval : (exV w.heap.size).val = .agg #[.int .i64 21, .int .u64 0, .string ⟨#[]⟩, .slice (some ⟨w.heap.size, 0, none⟩) 2 2, .int .i64 0] := by unfold exV; rw [V.val_of]; rfl
  have hee : ∀ W1, Below W0.heap.size W0 W1 → encE (exV w.heap.size) = 0 := fun W1 hW => by
    rw [encE_iff _ _ _ (HLI.out W1 hW).1, exV_t]
    exact ⟨ex_enc.2.2.1, by rw [ex_enc.2.1]; omega⟩
  have HEN : Hid (∀ W1, Below W0.heap.size W0 W1 → Calls Tryz.prog 8 #[.agg #[.int .i64 21, .int .u64 0, .string ⟨#[]⟩, .slice (some ⟨w.heap.size, 0, none⟩) 2 2, .int .i64 0]] W1 fun e w' => (∃ g, e = .returned (.tuple #[.slice (some ⟨g, 0, none⟩) 6 6, .int .i64 0]) ∧ Hid (Rd w' (some ⟨g, 0, none⟩) 6 [192, 4, 2, 65, 82, 1])) ∧ Below W1.heap.size W1 w') := fun W1 hW => by
    have h := encode_any (exV w.heap.size) W1.heap.size W1 (Nat.le_refl _) (HLI.out W1 hW).1 (HTB.out W1 (HLI.out W1 hW).2).1 (HTB.out W1 (HLI.out W1 hW).2).2 (by rw [exV_t]; have := ex_enc.2.2.2; omega)
    rw [hval] at h
    refine Calls.mono h ?_
    rintro e w' (⟨hz, _⟩ | ⟨hz, g, rfl, HG, hb⟩)
    · exact absurd (hee W1 hW) hz
    · refine ⟨⟨g, by rw [exV_t, ex_enc.2.1], ?_⟩, hb⟩
      have hg := HG.out.2.1.rd (enc_lt _)
      rw [exV_t, ex_enc.1] at hg
      exact hg
  have HLE : Hid (∀ W1, Below W0.heap.size W0 W1 → Calls Tryz.prog 9 #[.agg #[.int .i64 21, .int .u64 0, .string ⟨#[]⟩, .slice (some ⟨w.heap.size, 0, none⟩) 2 2, .int .i64 0]] W1 fun e w' => e = .returned (.tuple #[.int .i64 6, .int .i64 0]) ∧ Below W1.heap.size W1 w') := fun W1 hW => by
    have h := length_any (exV w.heap.size) W1.heap.size W1 (Nat.le_refl _) (HLI.out W1 hW).1 (HTB.out W1 (HLI.out W1 hW).2).1 (HTB.out W1 (HLI.out W1 hW).2).2 (by rw [exV_t]; have := ex_enc.2.2.2; omega)
    rw [hval, hee W1 hW, exV_t, ex_enc.2.1] at h
    exact h
  have HDE : Hid (∀ W1, Below w.heap.size w W1 → Calls Tryz.prog 15 #[.slice (some ⟨W1.heap.size, 0, none⟩) 3 3, .int .i64 1] (W1.alloc (.cells #[.int .u8 64, .int .u8 86, .int .u8 1] 5)) fun e w' => ∃ s b len c x, e = .returned (.tuple #[.agg #[.int .i64 1, .int .u64 1, .string s, .slice b len c, .int .i64 x], .int .i64 3, .int .i64 0]) ∧ Below W1.heap.size W1 w') := fun W1 hW => aw_dec W1 (HTB.out W1 hW).1 (HTB.out W1 hW).2
  have HWH : Hid (∀ W1, Below w.heap.size w W1 → Calls Tryz.prog 16 #[.slice (some ⟨W1.heap.size, 0, none⟩) 2 2] (W1.alloc (.cells #[.int .u8 64, .int .u8 64] 5)) fun e w' => e = .returned (.tuple #[.agg #[.int .i64 0, .int .u64 0, .string ⟨#[]⟩, .slice none 0 0, .int .i64 0], .int .i64 1, .int .i64 35]) ∧ Below W1.heap.size W1 w') := fun W1 hW => aw_whole W1 (HTB.out W1 hW).1 (HTB.out W1 hW).2
  have HS3 : Hid (∀ W1, Below w.heap.size w W1 → Calls Tryz.prog 17 #[.slice (some ⟨W1.heap.size, 0, none⟩) 2 2] (W1.alloc (.cells #[.int .u8 82, .int .u8 255] 5)) fun e w' => e = .returned (.bool true) ∧ Below W1.heap.size W1 w') := fun W1 hW => aw_short3 W1 (HTB.out W1 hW).1 (HTB.out W1 hW).2
  have HS4 : Hid (∀ W1, Below w.heap.size w W1 → Calls Tryz.prog 17 #[.slice (some ⟨W1.heap.size, 0, none⟩) 5 5] (W1.alloc (.cells #[.int .u8 112, .int .u8 0, .int .u8 0, .int .u8 0, .int .u8 255] 5)) fun e w' => e = .returned (.bool false) ∧ Below W1.heap.size W1 w') := fun W1 hW => aw_short4 W1 (HTB.out W1 hW).1 (HTB.out W1 hW).2
  have HW0 := hide hW0
  have HB0 := hide hb0
  clear hW0 hx0 hx1 hval hee hb0 hz0
  go_enter Tryz.func4, Tryz.ntmps4
  go_wp2_with fail
  rw [HW0.out]
  refine Calls.mono (HEN.out _ (Below.refl _ _)) ?_
  rintro e1 w1 ⟨⟨g, rfl, HRD⟩, hb1⟩
  have HB1 := hide hb1
  obtain ⟨q1, hz1⟩ := HVX.out w1 hb1
  have k0 := cells_at q1 0
  have k1 := cells_at q1 1
  have k2 := cells_at q1 2
  have k3 := cells_at q1 3
  have k4 := cells_at q1 4
  simp only [List.getElem?_toArray, List.getElem?_cons_zero, List.getElem?_cons_succ] at k0 k1 k2 k3 k4
  clear hb1 q1
  go_wp2_with fail
  refine Calls.mono (HLE.out _ HB1.out) ?_
  rintro e2 w2 ⟨rfl, hb2⟩
  have HB2 : Hid (Below W0.heap.size W0 w2) := belOn HB1.out HB1.out.size hb2
  have HR2 : Hid (Rd w2 (some ⟨g, 0, none⟩) 6 [192, 4, 2, 65, 82, 1]) := HRD.out.below hb2
  clear k0 k1 k2 k3 k4 hb2
  go_wp2_with fail
  refine Calls.mono (HDE.out _ (HLI.out _ HB2.out).2) ?_
  rintro e3 w3 ⟨s, b, len, c, x, rfl, hb3⟩
  have HB3 : Hid (Below w.heap.size w w3) := belOn (HLI.out _ HB2.out).2 (HLI.out _ HB2.out).2.size hb3
  have HR3 : Hid (Rd w3 (some ⟨g, 0, none⟩) 6 [192, 4, 2, 65, 82, 1]) := HR2.out.below hb3
  clear hb3
  obtain ⟨W4, hW4⟩ : ∃ W4, w3.alloc (Obj.cells #[.int .i64 1, .int .u64 1, .string s, .slice b len c, .int .i64 x] 25) = W4 := ⟨_, rfl⟩
  have HX4 : Hid (W4.heap[w3.heap.size]? = some (.cells #[.int .i64 1, .int .u64 1, .string s, .slice b len c, .int .i64 x] 25)) := by show W4.heap[w3.heap.size]? = _; rw [← hW4]; exact World.alloc_heap_new _ _
  have HB4 : Hid (Below w.heap.size w W4) := by show Below _ _ _; rw [← hW4]; exact bel1 HB3.out HB3.out.size _
  have HR4 : Hid (Rd W4 (some ⟨g, 0, none⟩) 6 [192, 4, 2, 65, 82, 1]) := by show Rd _ _ _ _; rw [← hW4]; exact HR3.out.below (bel1 (Below.refl _ _) (Nat.le_refl _) _)
  have HZ4 : Hid (w3.heap.size < W4.heap.size) := by show w3.heap.size < W4.heap.size; rw [← hW4]; simp
  have hz4 : W4.heap.size = w3.heap.size + 1 := by rw [← hW4]; simp
  have hwh := HWH.out W4 HB4.out
  rw [hz4] at hwh
  have HWH4 := hide hwh
  have HSZ4 := hide hz4
  have HW4 := hide hW4
  clear hW4 hwh hz4
  go_wp2_with fail
  rw [HW4.out]
  refine Calls.mono HWH4.out ?_
  rintro e5 w5 ⟨rfl, hb5'⟩
  have hb5 : Below W4.heap.size W4 w5 := by rw [HSZ4.out]; exact hb5'
  clear hb5'
  have HB5 : Hid (Below w.heap.size w w5) := belOn HB4.out HB4.out.size hb5
  have HR5 : Hid (Rd w5 (some ⟨g, 0, none⟩) 6 [192, 4, 2, 65, 82, 1]) := HR4.out.below hb5
  have HX5 : Hid (w5.heap[w3.heap.size]? = some (.cells #[.int .i64 1, .int .u64 1, .string s, .slice b len c, .int .i64 x] 25)) := (hb5.block _ HZ4.out).trans HX4.out
  clear hb5
  obtain ⟨W6, hW6⟩ : ∃ W6, w5.alloc (Obj.cells #[.int .i64 0, .int .u64 0, .string ⟨#[]⟩, .slice none 0 0, .int .i64 0] 25) = W6 := ⟨_, rfl⟩
  have HB6 : Hid (Below w.heap.size w W6) := by show Below _ _ _; rw [← hW6]; exact bel1 HB5.out HB5.out.size _
  have HR6 : Hid (Rd W6 (some ⟨g, 0, none⟩) 6 [192, 4, 2, 65, 82, 1]) := by show Rd _ _ _ _; rw [← hW6]; exact HR5.out.below (bel1 (Below.refl _ _) (Nat.le_refl _) _)
  have HX6 : Hid (W6.heap[w3.heap.size]? = some (.cells #[.int .i64 1, .int .u64 1, .string s, .slice b len c, .int .i64 x] 25)) := by show W6.heap[w3.heap.size]? = _; rw [← hW6]; exact heap_past HX5.out _
  have hz6 : W6.heap.size = w5.heap.size + 1 := by rw [← hW6]; simp
  have hs3 := HS3.out W6 HB6.out
  rw [hz6] at hs3
  have HS36 := hide hs3
  have HSZ6 := hide hz6
  have HW6 := hide hW6
  clear hW6 hs3 hz6
  go_wp2_with fail
  rw [HW6.out]
  refine Calls.mono HS36.out ?_
  rintro e7 w7 ⟨rfl, hb7'⟩
  have hb7 : Below W6.heap.size W6 w7 := by rw [HSZ6.out]; exact hb7'
  clear hb7'
  have HB7 : Hid (Below w.heap.size w w7) := belOn HB6.out HB6.out.size hb7
  have HR7 : Hid (Rd w7 (some ⟨g, 0, none⟩) 6 [192, 4, 2, 65, 82, 1]) := HR6.out.below hb7
  have HX7 : Hid (w7.heap[w3.heap.size]? = some (.cells #[.int .i64 1, .int .u64 1, .string s, .slice b len c, .int .i64 x] 25)) := (hb7.block _ (Array.getElem?_eq_some_iff.1 HX6.out).1).trans HX6.out
  clear hb7
  go_wp2_with fail
  refine Calls.mono (HS4.out _ HB7.out) ?_
  rintro e8 w8 ⟨rfl, hb8⟩
  have HB8 : Hid (Below w.heap.size w w8) := belOn HB7.out HB7.out.size hb8
  have hr8 : Rd w8 (some ⟨g, 0, none⟩) 6 [192, 4, 2, 65, 82, 1] := HR7.out.below hb8
  have hx8 : w8.heap[w3.heap.size]? = some (.cells #[.int .i64 1, .int .u64 1, .string s, .slice b len c, .int .i64 x] 25) := (hb8.block _ (Array.getElem?_eq_some_iff.1 HX7.out).1).trans HX7.out
  obtain ⟨S, hS⟩ : ∃ S : ByteArray, S = mkS [192, 4, 2, 65, 82, 1] := ⟨_, rfl⟩
  have hcv : (convert 28 9 (.slice (some ⟨g, 0, none⟩) 6 6)).run Tryz.prog w8 = .ok (.string S) w8 := by rw [hS]; exact conv8 hr8 (by omega) 6
  have hse : S.toList = [192, 4, 2, 65, 82, 1] := by rw [hS, mkS_list]; rfl
  clear hS
  have k0 := cells_at hx8 0
  have k1 := cells_at hx8 1
  simp only [List.getElem?_toArray, List.getElem?_cons_zero, List.getElem?_cons_succ] at k0 k1
  have hz8 := (Array.getElem?_eq_some_iff.1 hx8).1
  clear hb8 hr8 hx8
  go_wp2
  go_ret
  refine ⟨?_, HB8.out⟩
  first | rfl | simp
end Go.Proofs.YthhlpjhkeendcaaGreatDoor
