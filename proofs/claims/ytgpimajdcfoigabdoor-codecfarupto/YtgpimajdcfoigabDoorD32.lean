import Derived.Test.YtgpimajdcfoigabDoorD31

/- codec.Shortest. -/
namespace Go.Proofs.YtgpimajdcfoigabDoor
open Go.RowKit
set_option linter.unusedVariables false
set_option linter.unusedSimpArgs false
theorem Rd.below {w w' : World} {a : Option Addr} {n : Nat} {l : List Nat} (h : Rd w a n l) (hb : Below w.heap.size w w') : Rd w' a n l := by
  obtain ⟨h1, h2, h3⟩ := h
  refine ⟨h1, h2, fun hn => ?_⟩
  obtain ⟨b, off, ha, hlt, hc⟩ := h3 hn
  exact ⟨b, off, ha, Nat.lt_of_lt_of_le hlt hb.size, fun j hj => (hb.cell (p := ⟨b, off + j, none⟩) hlt).trans (hc j hj)⟩
theorem Buf.rd {w : World} {g cap : Nat} {l : List Nat} (h : Buf w g cap l) (hb : ∀ c ∈ l, c < 256) : Rd w (some ⟨g, 0, none⟩) l.length l := by
  refine ⟨rfl, hb, fun _ => ⟨g, 0, rfl, h.lt, fun j hj => ?_⟩⟩
  rw [Nat.zero_add, World.ownsRow.cellAt h j (by omega), List.getElem?_map, List.getElem?_eq_getElem hj]
  simp [bV, List.getD_eq_getElem?_getD, List.getElem?_eq_getElem hj]
theorem encE_iff (n₀ : Nat) (w : World) (y : V) (hl : Lies n₀ w y) : encE y = 0 ↔ Gd badB twiceW y.t 32 ∧ T.len y.t ≤ 1048576 := by
  have hc := check_iff n₀ w y hl
  unfold encE chkE
  by_cases h : firstE checkZ (V.all 1 y) = 0
  · simp only [h, ne_eq, not_true_eq_false, if_false]
    constructor
    · intro h2
      refine ⟨hc.1 h, ?_⟩
      split at h2 <;> omega
    · rintro ⟨_, h2⟩
      rw [if_neg (by omega)]
  · simp only [ne_eq, h, not_false_eq_true, if_true]
    constructor
    · intro h2
      first | exact absurd h2 h | exact h2.elim
    · intro h2
      exact absurd (hc.2 h2.1) h
/-- are bytes just what Encode writes? -/
def shortP (l : List Nat) : Prop := ∃ t, rwhole l = .ok t ∧ Gd badB twiceW t 32 ∧ T.len t ≤ 1048576 ∧ T.enc t = l
set_option maxRecDepth 100000 in
set_option maxHeartbeats 4000000 in
theorem shortest_of (a : Option Addr) (n cap : Nat) (l : List Nat) (w : World) (hB : Bts w a n cap l) (hn : 0 < n) (hne : ∀ x, rwhole l = .error x → x.2 ≠ 0) (hwt : ∀ t, rwhole l = .ok t → T.wt t ≤ 5000000) (hW : Calls Tryd.prog 11 #[.slice a n cap] w (WholeOut (rwhole l) w)) :
    Calls Tryd.prog 12 #[.slice a n cap] w fun e w' => ∃ b : Bool, e = .returned (.bool b) ∧ Hid (b = true ↔ shortP l) ∧ Below w.heap.size w w' := by
  have HW := hide hW
  have HB := hide hB
  clear hW hB
  cases hrw : rwhole l with
  | error x =>
    have hx2 : (x.2 == 0) = false := by rw [beq_eq_false_iff_ne]; exact hne x hrw
    rw [hrw] at HW
    have HP : Hid (¬ shortP l) := fun ⟨t, h, _⟩ => by rw [hrw] at h; cases h
    have HW2 : Hid (Calls Tryd.prog 11 #[.slice a n cap] w fun e w' => e = .returned (.tuple #[.agg #[.int .i64 0, .int .u64 0, .string ⟨#[]⟩, .slice none 0 0, .int .i64 0], .int .i64 x.1, .int .i64 x.2]) ∧ Below w.heap.size w w') := HW.out
    clear HW hrw hne hwt
    go_enter Tryd.func12, Tryd.ntmps12
    go_wp2_with fail
    refine Calls.mono HW2.out ?_
    rintro e1 w1 ⟨rfl, hb1⟩
    go_wp2
    go_ret
    exact ⟨false, rfl, ⟨(fun h => by cases h), (fun h => absurd h HP.out)⟩, bel1 hb1 hb1.size _⟩
  | ok t =>
    rw [hrw] at HW
    have HW2 : Hid (Calls Tryd.prog 11 #[.slice a n cap] w fun e w' => (∃ y : V, e = .returned (.tuple #[.agg #[.int .i64 y.k, .int .u64 y.n, .string y.s, .slice y.a y.l.length y.c, .int .i64 y.e], .int .i64 0, .int .i64 0]) ∧ Hid (y.t = t ∧ LiesIn (fun b => w.heap.size ≤ b ∧ b < w'.heap.size) w' y)) ∧ Below w.heap.size w w') := HW.out
    have hw := hwt t hrw
    have HP : Hid (shortP l ↔ Gd badB twiceW t 32 ∧ T.len t ≤ 1048576 ∧ T.enc t = l) := ⟨fun ⟨t', h, h2⟩ => by rw [hrw] at h; cases h; exact h2, fun h => ⟨t, hrw, h⟩⟩
    clear HW hrw hne hwt
    go_enter Tryd.func12, Tryd.ntmps12
    go_wp2_with fail
    refine Calls.mono HW2.out ?_
    rintro e1 w1 ⟨⟨y, rfl, HY⟩, hb1⟩
    have hba := bel1 hb1 hb1.size (Obj.cells #[.int .i64 y.k, .int .u64 y.n, .string y.s, .slice y.a y.l.length y.c, .int .i64 y.e] 25)
    have hly : Lies w1.heap.size (w1.alloc (Obj.cells #[.int .i64 y.k, .int .u64 y.n, .string y.s, .slice y.a y.l.length y.c, .int .i64 y.e] 25)) y := HY.out.2.keep (fun b hb o => World.cell?_alloc_past _ _ _ hb.2) (fun b hb => hb.2)
    have hen := encode_any y w1.heap.size _ (by simp) hly (HB.out.tab.below hba) (tabs_below HB.out.utf hba) (by rw [HY.out.1]; exact hw)
    have HEI := hide (encE_iff _ _ y hly)
    rw [V.val_eq] at hen
    have HEN := hide hen
    have hbd := hb1.size
    clear hen hly hb1
    go_wp2_with fail
    refine Calls.mono HEN.out ?_
    rintro e2 w2 (⟨hz, rfl, hb2⟩ | ⟨hz, g, rfl, HG, hb2⟩)
    · have hzb : (encE y == 0) = false := by rw [beq_eq_false_iff_ne]; exact hz
      have HZ := hide hz
      have hbf := belOn hba (by simp; omega) hb2
      clear hz hb2
      go_wp2
      go_ret
      refine ⟨false, ?_, ⟨(fun h => by cases h), (fun h => ?_)⟩, hbf⟩
      · rfl
      · have h3 := HP.out.1 h
        rw [← HY.out.1] at h3
        exact absurd (HEI.out.2 ⟨h3.1, h3.2.1⟩) HZ.out
    · obtain ⟨hg1, hg2, hg3, hg4, hg5⟩ := HG.out
      have hbf := belOn hba (by simp; omega) hb2
      have hrd2 := hg2.rd (enc_lt y.t)
      rw [hg3] at hrd2
      have HBE := hide (bytesEqual_any (some ⟨g, 0, none⟩) a (T.len y.t) n (T.len y.t) cap (T.enc y.t) l w2 hrd2 (HB.out.rd.below hbf) (by unfold T.len; omega) hn)
      clear hz hb2 hg2 hrd2
      go_wp2_with fail
      refine Calls.mono HBE.out ?_
      rintro e3 w3 ⟨rfl, rfl⟩
      go_wp2
      go_ret
      refine ⟨decide (T.enc y.t = l), rfl, ?_, hbf⟩
      have e4 := HP.out
      rw [← HY.out.1] at e4
      show _ ↔ _
      rw [e4, decide_eq_true_eq]
      exact ⟨fun h => ⟨hg4, hg5, h⟩, fun h => h.2.2⟩
end Go.Proofs.YtgpimajdcfoigabDoor
