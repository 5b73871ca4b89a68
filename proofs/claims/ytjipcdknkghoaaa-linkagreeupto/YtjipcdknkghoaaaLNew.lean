
/- Stage 14: New, See. -/
import Derived.Test.YtjipcdknkghoaaaLMap
namespace Go.Proofs.Ytjipcdknkghoaaa
open Go.RowKit Go.Maps
set_option linter.unusedVariables false
set_option linter.unusedSimpArgs false

/-- a config's cells -/
def cfA (nm : ByteArray) (rc : Bool) (sm rm ic mm : Int) : Array Value := #[.string nm, .bool rc, .int .i64 sm, .int .i64 rm, .int .i64 ic, .int .i64 mm]
set_option maxRecDepth 100000 in
set_option maxHeartbeats 1000000 in
theorem mayBe_yes (nm : ByteArray) (rc : Bool) (sm rm ic mm : Int) (w : World) (h1 : nm.size ≤ 64) (h2 : isIn sm 2 = true) (h3 : isIn rm 1 = true) (h4 : isIn ic 4294967295 = true) (h5 : 0 ≤ mm) :
    Calls Try.prog 26 #[.agg (cfA nm rc sm rm ic mm)] w fun e w' => e = .returned (.bool true) ∧ Below w.heap.size w w' := by
  have n1 : ((nm.size : Int) ≤ 64) := by omega
  have H2 := hide h2
  have H3 := hide h3
  have H4 := hide h4
  clear h1 h2 h3 h4
  unfold cfA
  go_enter Try.func26, Try.ntmps26
  go_wp2_with (first | (go_at_call 40; refine (within_any _ _ _).mono ?_; rintro e1 w1 ⟨rfl, rfl⟩; (first | rw [H2.out] | rw [H3.out] | rw [H4.out])))
  go_ret
  exact ⟨by simp [n1, h5], bel1 (Below.refl _ _) (Nat.le_refl _) _⟩
set_option maxRecDepth 100000 in
set_option maxHeartbeats 1000000 in
theorem mayBe_snd (nm : ByteArray) (rc : Bool) (sm rm ic mm : Int) (w : World) (h1 : nm.size ≤ 64) (h2 : isIn sm 2 = false) :
    Calls Try.prog 26 #[.agg (cfA nm rc sm rm ic mm)] w fun e w' => e = .returned (.bool false) ∧ Below w.heap.size w w' := by
  have n1 : ((nm.size : Int) ≤ 64) := by omega
  have H2 := hide h2
  clear h1 h2
  unfold cfA
  go_enter Try.func26, Try.ntmps26
  go_wp2_with (first | (go_at_call 40; refine (within_any _ _ _).mono ?_; rintro e1 w1 ⟨rfl, rfl⟩; rw [H2.out]))
  go_ret
  exact ⟨by simp [n1], bel1 (Below.refl _ _) (Nat.le_refl _) _⟩
def newLk (nm : ByteArray) (rc : Bool) (sm rm ic : Int) (n : Nat) : Lk := ⟨nm, rc, ic, 0, 0, false, sm, rm, ic, ic, n⟩
/-- a link with its table -/
structure Lnk (w : World) (g : Nat) (l : Lk) (T : List (ByteArray × Dv)) : Prop where
  lb : LB w g l
  tb : TbD w l.dm T
section
variable {w w' : World} {g : Nat} {l l' : Lk} {T T' : List (ByteArray × Dv)}
def inL (g : Nat) (l : Lk) (k : Nat) : Prop := k = g ∨ k = l.dm
theorem Lnk.lt (h : Lnk w g l T) {k : Nat} (hk : inL g l k) : k < w.heap.size := by
  rcases hk with rfl | rfl
  · exact h.lb.lt
  · exact h.tb.lt
theorem Lnk.at (h : Lnk w g l T) (hb : ∀ k, inL g l k → w'.heap[k]? = w.heap[k]?) : Lnk w' g l T := ⟨h.lb.at (hb _ (.inl rfl)), h.tb.at (hb _ (.inr rfl))⟩
theorem Lnk.below (h : Lnk w g l T) (hb : Below w.heap.size w w') : Lnk w' g l T := h.at fun k hk => hb.block k (h.lt hk)
theorem Lnk.kp {X : Nat → Prop} (h : Lnk w g l T) (hb : Kp X w w') (hx : ∀ k, inL g l k → ¬ X k) : Lnk w' g l T := h.at fun k hk => hb.block (h.lt hk) (hx k hk)
theorem Lnk.ne (h : Lnk w g l T) : l.dm ≠ g := h.tb.ne h.lb
theorem Lnk.turn (h : Lnk w g l T) (hl : LB w' g l') (hm : l'.dm = l.dm) (hk : Kp (fun k => k = g) w w') : Lnk w' g l' T :=
  ⟨hl, by rw [hm]; exact h.tb.at (hk.block h.tb.lt h.ne)⟩
theorem Lnk.put (h : Lnk w g l T) (ht : TbD w' l.dm T') (hk : Kp (fun k => k = l.dm) w w') : Lnk w' g l T' :=
  ⟨h.lb.at (hk.block h.lb.lt (fun e => h.ne e.symm)), ht⟩
end
theorem kpL {g : Nat} {l : Lk} {w w' : World} (h : Kp (fun k => k = g) w w') : Kp (inL g l) w w' := h.mono (fun k hk => .inl hk)
set_option maxRecDepth 100000 in
set_option maxHeartbeats 1000000 in
theorem new_yes (nm : ByteArray) (rc : Bool) (sm rm ic mm : Int) (w : World) (h1 : nm.size ≤ 64) (h2 : isIn sm 2 = true) (h3 : isIn rm 1 = true) (h4 : isIn ic 4294967295 = true) (h5 : 0 ≤ mm) :
    Calls Try.prog 6 #[.agg (cfA nm rc sm rm ic mm)] w fun e w' => ∃ n, e = .returned (.pointer (some ⟨n + 1, 0, none⟩)) ∧ w.heap.size ≤ n ∧ Lnk w' (n + 1) (newLk nm rc sm rm ic n) [] ∧ Below w.heap.size w w' := by
  have HM := hide (mayBe_yes nm rc sm rm ic mm (w.alloc (.cells (cfA nm rc sm rm ic mm) 25)) h1 h2 h3 h4 h5)
  have hmm := @run_makeMap Try.prog
  clear h1 h2 h3 h4 h5
  have HF : Hid (∀ w1, Below (w.alloc (.cells (cfA nm rc sm rm ic mm) 25)).heap.size (w.alloc (.cells (cfA nm rc sm rm ic mm) 25)) w1 → w1.cell? ⟨w.heap.size, 0, none⟩ = some (.string nm) ∧ w1.cell? ⟨w.heap.size, 1, none⟩ = some (.bool rc) ∧ w1.cell? ⟨w.heap.size, 2, none⟩ = some (.int .i64 sm) ∧ w1.cell? ⟨w.heap.size, 3, none⟩ = some (.int .i64 rm) ∧ w1.cell? ⟨w.heap.size, 4, none⟩ = some (.int .i64 ic) ∧ w.heap.size < w1.heap.size ∧ Hid (Below w.heap.size w w1)) := by
    intro w1 hb1
    have hh : w1.heap[w.heap.size]? = some (.cells (cfA nm rc sm rm ic mm) 25 (0, 0)) := (hb1.block _ (by simp)).trans (heap_alloc_last w _)
    exact ⟨cellOf hh 0 _ rfl, cellOf hh 1 _ rfl, cellOf hh 2 _ rfl, cellOf hh 3 _ rfl, cellOf hh 4 _ rfl, (Array.getElem?_eq_some_iff.1 hh).1, belOn (bel1 (Below.refl _ _) (Nat.le_refl _) _) (by simp) hb1⟩
  unfold cfA at *
  go_enter Try.func6, Try.ntmps6
  go_wp2_with (go_at_call 26; refine HM.out.mono ?_; rintro e1 w1 ⟨rfl, hb1⟩; obtain ⟨c0, c1, c2, c3, c4, hlt, HB⟩ := HF.out w1 hb1; clear hb1)
  go_ret
  refine ⟨w1.heap.size, rfl, HB.out.size, ⟨?_, ?_⟩, bel1 (bel1 HB.out HB.out.size _) (by simp; omega) _⟩
  · have := heap_alloc_last (w1.alloc (.map #[] 0)) (.cells (newLk nm rc sm rm ic w1.heap.size).cells 84)
    rw [show (w1.alloc (.map #[] 0)).heap.size = w1.heap.size + 1 by simp] at this
    exact this
  · exact (TbD.made w1).at (Below.heap_alloc _ _ _ (by simp))
set_option maxRecDepth 100000 in
set_option maxHeartbeats 1000000 in
theorem new_no (nm : ByteArray) (rc : Bool) (sm rm ic mm : Int) (w : World) (h1 : nm.size ≤ 64) (h2 : isIn sm 2 = false) :
    Calls Try.prog 6 #[.agg (cfA nm rc sm rm ic mm)] w fun e w' => e = .returned (.pointer none) ∧ Below w.heap.size w w' := by
  have HM := hide (mayBe_snd nm rc sm rm ic mm (w.alloc (.cells (cfA nm rc sm rm ic mm) 25)) h1 h2)
  clear h1 h2
  unfold cfA at *
  go_enter Try.func6, Try.ntmps6
  go_wp2_with (first | (go_at_call 26; refine HM.out.mono ?_; rintro e1 w1 ⟨rfl, hb1⟩))
  go_ret
  exact ⟨rfl, belOn (bel1 (Below.refl _ _) (Nat.le_refl _) _) (by simp) hb1⟩
/-- how a link stands, as it is told -/
def Lk.see (l : Lk) (n : Nat) : Array Value := #[.string l.nm, .bool l.rc, .int .i64 l.ct, .int .i64 l.cr, .int .i64 l.av, .bool l.dr, .int .i64 (n : Int)]
end Go.Proofs.Ytjipcdknkghoaaa
