import Derived.Test.YtknkmamjdmadcaaProg
import Derived.Test.YtknkmamjdmadcaaChecked
import Derived.WalkKit
import Derived.WalkSmall
import Derived.WalkSpells
import Derived.Deep.WholeRow
import Derived.Deep.MidRow
import Derived.WalkLawsBesides
import Derived.Handy
import Derived.Outline
import Derived.BigQuiet
import Derived.Deep.QuietTactic
import Derived.Deep.RegionHeld

/- Stage 14: what stays; a link in its block. -/
namespace Go.Proofs.Ytknkmamjdmadcaa
open Go.RowKit Go.Maps
set_option linter.unusedVariables false
set_option linter.unusedSimpArgs false

theorem hide {p : Prop} (h : p) : Hid p := h
theorem heap_past {w : World} {b : Nat} {x : Obj} (h : w.heap[b]? = some x) (o : Obj) : (w.alloc o).heap[b]? = some x := (Below.heap_alloc _ _ _ (Array.getElem?_eq_some_iff.1 h).1).trans h
theorem bel1 {B : Nat} {w wr : World} (h : Below B w wr) (hB : B ≤ wr.heap.size) (o : Obj) : Below B w (wr.alloc o) := h.alloc hB o
theorem belOn {B : Nat} {w w1 w2 : World} (h : Below B w w1) (hB : B ≤ w1.heap.size) (k : Below w1.heap.size w1 w2) : Below B w w2 := h.trans (k.mono hB)
theorem blk_set_other (w : World) (a : Addr) (v : Value) (i : Nat) (h : i ≠ a.block) : (w.setCell a v).heap[i]? = w.heap[i]? := Below.heap_setCell _ _ _ _ h
theorem cellOf {W : World} {g : Nat} {cs : Array Value} {t : TypeId} {fr : Nat × Nat} (h : W.heap[g]? = some (.cells cs t fr)) (o : Nat) (v : Value) (hv : cs[o]? = some v) : W.cell? ⟨g, o, none⟩ = some v := by
  simp [World.cell?, h, hv]

/-- nothing has turned but the blocks of S -/
def Kp (S : Nat → Prop) (w w' : World) : Prop := w'.os = w.os ∧ w'.tape = w.tape ∧ w'.output = w.output ∧ w.heap.size ≤ w'.heap.size ∧ ∀ k, k < w.heap.size → ¬ S k → w'.heap[k]? = w.heap[k]?
theorem Kp.refl (S : Nat → Prop) (w : World) : Kp S w w := ⟨rfl, rfl, rfl, Nat.le_refl _, fun _ _ _ => rfl⟩
theorem Kp.size {S : Nat → Prop} {w w' : World} (h : Kp S w w') : w.heap.size ≤ w'.heap.size := h.2.2.2.1
theorem Kp.block {S : Nat → Prop} {w w' : World} (h : Kp S w w') {k : Nat} (hk : k < w.heap.size) (hs : ¬ S k) : w'.heap[k]? = w.heap[k]? := h.2.2.2.2 k hk hs
theorem Kp.setCell {S : Nat → Prop} {w w' : World} (h : Kp S w w') {b o : Nat} (hb : S b) (v : Value) : Kp S w (w'.setCell ⟨b, o, none⟩ v) := by
  obtain ⟨h1, h2, h3, h4, h5⟩ := h
  refine ⟨h1, h2, h3, by simpa using h4, fun k hk hs => ?_⟩
  rw [blk_set_other _ _ _ _ (fun e => hs (by rw [e]; exact hb))]
  exact h5 k hk hs
theorem Kp.fresh {S : Nat → Prop} {w w' : World} (h : Kp S w w') {b o : Nat} (hb : w.heap.size ≤ b) (v : Value) : Kp S w (w'.setCell ⟨b, o, none⟩ v) := by
  obtain ⟨h1, h2, h3, h4, h5⟩ := h
  refine ⟨h1, h2, h3, by simpa using h4, fun k hk hs => ?_⟩
  rw [blk_set_other _ _ _ _ (fun e => by simp at e; omega)]
  exact h5 k hk hs
theorem Kp.below {S : Nat → Prop} {w w' w2 : World} (h : Kp S w w') (hb : Below w'.heap.size w' w2) : Kp S w w2 := by
  obtain ⟨h1, h2, h3, h4, h5⟩ := h
  exact ⟨hb.os.trans h1, hb.tape.trans h2, hb.output.trans h3, Nat.le_trans h4 hb.size, fun k hk hs => (hb.block k (Nat.lt_of_lt_of_le hk h4)).trans (h5 k hk hs)⟩
theorem Kp.ofBelow {S : Nat → Prop} {w w' : World} (hb : Below w.heap.size w w') : Kp S w w' := (Kp.refl S w).below hb
theorem Kp.alloc {S : Nat → Prop} {w w' : World} (h : Kp S w w') (o : Obj) : Kp S w (w'.alloc o) := h.below ((Below.refl _ _).alloc (Nat.le_refl _) _)
theorem Kp.toBelow {S : Nat → Prop} {w w' : World} (h : Kp S w w') {B : Nat} (hB : B ≤ w.heap.size) (hs : ∀ k, k < B → ¬ S k) : Below B w w' :=
  ⟨h.1, h.2.1, h.2.2.1, h.2.2.2.1, fun k hk => h.2.2.2.2 k (Nat.lt_of_lt_of_le hk hB) (hs k hk)⟩
theorem Kp.cell {S : Nat → Prop} {w w' : World} (h : Kp S w w') {b o : Nat} (hb : b < w.heap.size) (hs : ¬ S b) : w'.cell? ⟨b, o, none⟩ = w.cell? ⟨b, o, none⟩ :=
  World.cell?_of_block (a := ⟨b, o, none⟩) (h.2.2.2.2 b hb hs)
theorem Kp.trans {S : Nat → Prop} {w w' w2 : World} (h : Kp S w w') (h2 : Kp S w' w2) : Kp S w w2 :=
  ⟨h2.1.trans h.1, h2.2.1.trans h.2.1, h2.2.2.1.trans h.2.2.1, Nat.le_trans h.2.2.2.1 h2.2.2.2.1, fun k hk hs => (h2.2.2.2.2 k (Nat.lt_of_lt_of_le hk h.2.2.2.1) hs).trans (h.2.2.2.2 k hk hs)⟩
theorem Kp.mono {S S' : Nat → Prop} {w w' : World} (h : Kp S w w') (hs : ∀ k, S k → S' k) : Kp S' w w' :=
  ⟨h.1, h.2.1, h.2.2.1, h.2.2.2.1, fun k hk hn => h.2.2.2.2 k hk (fun e => hn (hs k e))⟩
/-- what is turned in a world that has grown was laid since, or is in S -/
theorem Kp.transN {S T : Nat → Prop} {w w' w2 : World} (h : Kp S w w') (h2 : Kp T w' w2) (hT : ∀ k, T k → S k ∨ w.heap.size ≤ k) : Kp S w w2 :=
  ⟨h2.1.trans h.1, h2.2.1.trans h.2.1, h2.2.2.1.trans h.2.2.1, Nat.le_trans h.2.2.2.1 h2.2.2.2.1, fun k hk hs => (h2.2.2.2.2 k (Nat.lt_of_lt_of_le hk h.2.2.2.1) (fun e => (hT k e).elim hs (fun h => by omega))).trans (h.2.2.2.2 k hk hs)⟩
theorem Kp.grown {S : Nat → Prop} {w w' w2 : World} {row : Option Nat} (h : Kp S w w') (hg : w'.grownBy w2 row) (hr : ∀ j, row = some j → S j ∨ w.heap.size ≤ j) : Kp S w w2 :=
  ⟨hg.os.trans h.1, hg.tape.trans h.2.1, hg.output.trans h.2.2.1, Nat.le_trans h.2.2.2.1 hg.size, fun k hk hs => (hg.block k (Nat.lt_of_lt_of_le hk h.2.2.2.1) (fun e => (hr k e.symm).elim hs (fun h => by omega))).trans (h.2.2.2.2 k hk hs)⟩

theorem bel_drew (w : World) : Below w.heap.size w w.drew := ⟨rfl, rfl, rfl, Nat.le_refl _, fun _ _ => rfl⟩
theorem kp_self {g : Nat} {w w' : World} (h : Kp (fun k => k = g) w w') (o : Nat) (v : Value) : Kp (fun k => k = g) w (w'.setCell ⟨g, o, none⟩ v) := Kp.setCell h rfl v
theorem ret_int {k : IntKind} {a b : Int} (h : a = b) : Ending.returned (.int k a) = .returned (.int k b) := by rw [h]
def lesser (a b : Int) : Int := if b < a then b else a
def greater (a b : Int) : Int := if a < b then b else a
/-- the gap, as a number -/
def gapZ (a b : Int) : Int := (b - a + 2147483648) % 4294967296 - 2147483648
/-- a link -/
structure Lk where
  nm : ByteArray
  rc : Bool
  ct : Int
  cr : Int
  av : Int
  dr : Bool
  sm : Int
  rm : Int
  fi : Int
  bd : Int
  dm : Nat
def Lk.cells (l : Lk) : Array Value := #[.string l.nm, .bool l.rc, .int .i64 l.ct, .int .i64 l.cr, .int .i64 l.av, .bool l.dr, .int .i64 0, .int .i64 l.sm, .int .i64 l.rm, .int .i64 l.fi, .int .i64 l.bd, .map (some l.dm)]
def LB (w : World) (g : Nat) (l : Lk) : Prop := w.heap[g]? = some (.cells l.cells 84 (0, 0))
section
variable {w w' : World} {g : Nat} {l : Lk}
theorem LB.lt (h : LB w g l) : g < w.heap.size := (Array.getElem?_eq_some_iff.1 h).1
theorem LB.at (h : LB w g l) (hb : w'.heap[g]? = w.heap[g]?) : LB w' g l := hb.trans h
theorem LB.facts (h : LB w g l) : w.cell? ⟨g, 0, none⟩ = some (.string l.nm) ∧ w.cell? ⟨g, 1, none⟩ = some (.bool l.rc) ∧ w.cell? ⟨g, 2, none⟩ = some (.int .i64 l.ct) ∧ w.cell? ⟨g, 3, none⟩ = some (.int .i64 l.cr) ∧ w.cell? ⟨g, 4, none⟩ = some (.int .i64 l.av) ∧ w.cell? ⟨g, 5, none⟩ = some (.bool l.dr) ∧ w.cell? ⟨g, 6, none⟩ = some (.int .i64 0) ∧ w.cell? ⟨g, 7, none⟩ = some (.int .i64 l.sm) ∧ w.cell? ⟨g, 8, none⟩ = some (.int .i64 l.rm) ∧ w.cell? ⟨g, 9, none⟩ = some (.int .i64 l.fi) ∧ w.cell? ⟨g, 10, none⟩ = some (.int .i64 l.bd) ∧ w.cell? ⟨g, 11, none⟩ = some (.map (some l.dm)) := by
  unfold LB at h
  simp [World.cell?, h, Lk.cells]
theorem LB.frozen (h : LB w g l) (j : Nat) : w.frozen? ⟨g, j, none⟩ = false := by
  unfold LB at h
  simp [World.frozen?, h]
theorem LB.set_ct (h : LB w g l) (x : Int) : LB (w.setCell ⟨g, 2, none⟩ (.int .i64 x)) g { l with ct := x } := by
  unfold LB at *
  simp [World.setCell, Array.getElem?_modify, h, Lk.cells]
theorem LB.set_cr (h : LB w g l) (x : Int) : LB (w.setCell ⟨g, 3, none⟩ (.int .i64 x)) g { l with cr := x } := by
  unfold LB at *
  simp [World.setCell, Array.getElem?_modify, h, Lk.cells]
theorem LB.set_av (h : LB w g l) (x : Int) : LB (w.setCell ⟨g, 4, none⟩ (.int .i64 x)) g { l with av := x } := by
  unfold LB at *
  simp [World.setCell, Array.getElem?_modify, h, Lk.cells]
theorem LB.set_dr (h : LB w g l) (x : Bool) : LB (w.setCell ⟨g, 5, none⟩ (.bool x)) g { l with dr := x } := by
  unfold LB at *
  simp [World.setCell, Array.getElem?_modify, h, Lk.cells]
theorem LB.set_bd (h : LB w g l) (x : Int) : LB (w.setCell ⟨g, 10, none⟩ (.int .i64 x)) g { l with bd := x } := by
  unfold LB at *
  simp [World.setCell, Array.getElem?_modify, h, Lk.cells]
theorem LB.drew (h : LB w g l) : LB w.drew g l := h
theorem LB.cast {l' : Lk} (h : LB w g l) (e : l = l') : LB w g l' := e ▸ h
end
end Go.Proofs.Ytknkmamjdmadcaa


/- Stage 14: the link's numbers: isWithin, Before, goOn, Grant, Drained. -/
namespace Go.Proofs.Ytknkmamjdmadcaa
open Go.RowKit
set_option linter.unusedVariables false
set_option linter.unusedSimpArgs false

theorem add_any (a b : Int) (w : World) :
    Calls Try.prog 41 #[.int .i64 a, .int .i64 b] w fun e w' => e = .returned (.int .i64 ((a + b) % 4294967296)) ∧ w = w' := by
  go_enter Try.func41, Try.ntmps41
  go_wp2
  go_ret
  exact ⟨rfl, rfl⟩
theorem gap_any (a b : Int) (w : World) :
    Calls Try.prog 59 #[.int .i64 a, .int .i64 b] w fun e w' => e = .returned (.int .i64 (gapZ a b)) ∧ w = w' := by
  go_enter Try.func59, Try.ntmps59
  go_wp2
  go_ret
  exact ⟨ret_int (by simp only [gapZ, wrap64, wrap32]; omega), rfl⟩
theorem before_any (a b : Int) (w : World) :
    Calls Try.prog 42 #[.int .i64 a, .int .i64 b] w fun e w' => e = .returned (.bool (decide (0 < gapZ a b))) ∧ w = w' := by
  go_enter Try.func42, Try.ntmps42
  go_wp2_with (go_at_call 59; refine (gap_any _ _ _).mono ?_; rintro e1 w1 ⟨rfl, rfl⟩)
  go_ret
  exact ⟨rfl, rfl⟩
def isIn (n m : Int) : Bool := decide (0 ≤ n) && decide (n ≤ m)
theorem within_any (n m : Int) (w : World) :
    Calls Try.prog 40 #[.int .i64 n, .int .i64 m] w fun e w' => e = .returned (.bool (isIn n m)) ∧ w = w' := by
  unfold isIn
  by_cases h : 0 ≤ n
  · go_enter Try.func40, Try.ntmps40
    go_wp2
    go_ret
    exact ⟨by simp [h], rfl⟩
  · go_enter Try.func40, Try.ntmps40
    go_wp2
    go_ret
    exact ⟨by simp [h]; omega, rfl⟩
/-- counted on -/
def Lk.on (l : Lk) (n : Int) : Lk := { l with ct := (l.ct + n) % 4294967296, cr := greater 0 (l.cr - n), dr := if l.rc = true ∧ greater 0 (l.cr - n) = 0 then false else l.dr }
set_option maxRecDepth 100000 in
theorem goOn_any (g : Nat) (l : Lk) (n : Int) (w : World) (h : LB w g l) (hc : 0 ≤ l.cr ∧ l.cr ≤ 4294967295) (hn : 0 ≤ n ∧ n ≤ 4294967295) :
    Calls Try.prog 49 #[.pointer (some ⟨g, 0, none⟩), .int .i64 n] w fun e w' => e = .returned (.tuple #[]) ∧ LB w' g (l.on n) ∧ Kp (fun k => k = g) w w' := by
  obtain ⟨s0, s1, s2, s3, s4, s5, s6, s7, s8, s9, s10, s11⟩ := h.facts
  have f2 := h.frozen 2
  have f3 := h.frozen 3
  have f5 := h.frozen 5
  have hl := h.lt
  have HL := hide h
  clear h s0 s4 s6 s7 s8 s9 s10 s11
  obtain ⟨nm, rc, ct, cr, av, dr, sm, rm, fi, bd, dm⟩ := l
  dsimp only at *
  by_cases hp : 0 < cr - n
  · have he : Hid (greater 0 (cr - n) = cr - n ∧ cr - n ≠ 0) := ⟨by unfold greater; rw [if_pos hp], by omega⟩
    have hne : (cr - n == 0) = false := by have := he.out.2; simp [this]
    cases rc
    · go_enter Try.func49, Try.ntmps49
      go_wp2_with (go_at_call 41; refine (add_any _ _ _).mono ?_; rintro e1 w1 ⟨rfl, rfl⟩)
      all_goals first | (exfalso; omega) | skip
      first | go_end0 | refine bodyPost_ret (results_none rfl _ _ _) rfl ?_
      exact ⟨rfl, ((HL.out.set_ct _).set_cr _).cast (by unfold Lk.on; simp [he.out.1]), kp_self (kp_self (Kp.refl _ _) _ _) _ _⟩
    · go_enter Try.func49, Try.ntmps49
      go_wp2_with (go_at_call 41; refine (add_any _ _ _).mono ?_; rintro e1 w1 ⟨rfl, rfl⟩)
      all_goals first | (exfalso; omega) | skip
      first | go_end0 | refine bodyPost_ret (results_none rfl _ _ _) rfl ?_
      exact ⟨rfl, ((HL.out.set_ct _).set_cr _).cast (by unfold Lk.on; simp [he.out.1, he.out.2]), kp_self (kp_self (Kp.refl _ _) _ _) _ _⟩
  · have he : Hid (greater 0 (cr - n) = 0) := by show _ = _; unfold greater; rw [if_neg hp]
    cases rc
    · go_enter Try.func49, Try.ntmps49
      go_wp2_with (go_at_call 41; refine (add_any _ _ _).mono ?_; rintro e1 w1 ⟨rfl, rfl⟩)
      all_goals first | (exfalso; omega) | skip
      first | go_end0 | refine bodyPost_ret (results_none rfl _ _ _) rfl ?_
      exact ⟨rfl, ((HL.out.set_ct _).set_cr _).cast (by unfold Lk.on; simp [he.out]), kp_self (kp_self (Kp.refl _ _) _ _) _ _⟩
    · go_enter Try.func49, Try.ntmps49
      go_wp2_with (go_at_call 41; refine (add_any _ _ _).mono ?_; rintro e1 w1 ⟨rfl, rfl⟩)
      all_goals first | (exfalso; omega) | skip
      first | go_end0 | refine bodyPost_ret (results_none rfl _ _ _) rfl ?_
      exact ⟨rfl, (((HL.out.set_ct _).set_cr _).set_dr _).cast (by unfold Lk.on; simp [he.out]), kp_self (kp_self (kp_self (Kp.refl _ _) _ _) _ _) _ _⟩
end Go.Proofs.Ytknkmamjdmadcaa


/- Stage 14: the link's numbers: Grant, Drained, Flow. -/
namespace Go.Proofs.Ytknkmamjdmadcaa
open Go.RowKit
set_option linter.unusedVariables false
set_option linter.unusedSimpArgs false

theorem LB.drewN {w : World} {g : Nat} {l : Lk} (h : LB w g l) (n : Nat) : LB (w.drewN n) g l := h
theorem Kp.drewN {S : Nat → Prop} {w w' : World} (h : Kp S w w') (n : Nat) : Kp S w (w'.drewN n) := h
def Lk.grant (l : Lk) (c : Int) (d : Bool) : Lk := { l with cr := c, dr := d && decide (0 < c), bd := if 0 < gapZ l.bd ((l.ct + c) % 4294967296) then (l.ct + c) % 4294967296 else l.bd }
set_option maxRecDepth 100000 in
theorem grant_any (g : Nat) (l : Lk) (c : Int) (d : Bool) (w : World) (h : LB w g l) (hr : l.rc = true) (hc : isIn c 2147483647 = true) :
    Calls Try.prog 20 #[.pointer (some ⟨g, 0, none⟩), .int .i64 c, .bool d] w fun e w' => e = .returned (.int .i64 0) ∧ LB w' g (l.grant c d) ∧ Kp (fun k => k = g) w w' := by
  obtain ⟨s0, s1, s2, s3, s4, s5, s6, s7, s8, s9, s10, s11⟩ := h.facts
  have f3 := h.frozen 3
  have f5 := h.frozen 5
  have f10 := h.frozen 10
  have hl := h.lt
  have HL := hide h
  have HC := hide hc
  rw [hr] at s1
  clear h s0 s4 s6 s7 s8 s9 s11 hc hr
  obtain ⟨nm, rc, ct, cr, av, dr, sm, rm, fi, bd, dm⟩ := l
  dsimp only at *
  by_cases hp : 0 < c
  · by_cases hg : 0 < gapZ bd ((ct + c) % 4294967296)
    · cases d
      all_goals
        go_enter Try.func20, Try.ntmps20
        go_wp2_with (first | (go_at_call 40; refine (within_any _ _ _).mono ?_; rintro e1 w1 ⟨rfl, rfl⟩; rw [HC.out]) | (go_at_call 41; refine (add_any _ _ _).mono ?_; rintro e1 w1 ⟨rfl, rfl⟩) | (go_at_call 42; refine (before_any _ _ _).mono ?_; rintro e1 w1 ⟨rfl, rfl⟩))
        go_ret
        exact ⟨rfl, (((HL.out.set_cr _).set_dr _).set_bd _).cast (by simp [Lk.grant, hp, hg]), kp_self (kp_self (kp_self (Kp.refl _ _) _ _) _ _) _ _⟩
    · cases d
      all_goals
        go_enter Try.func20, Try.ntmps20
        go_wp2_with (first | (go_at_call 40; refine (within_any _ _ _).mono ?_; rintro e1 w1 ⟨rfl, rfl⟩; rw [HC.out]) | (go_at_call 41; refine (add_any _ _ _).mono ?_; rintro e1 w1 ⟨rfl, rfl⟩) | (go_at_call 42; refine (before_any _ _ _).mono ?_; rintro e1 w1 ⟨rfl, rfl⟩))
        go_ret
        exact ⟨rfl, ((HL.out.set_cr _).set_dr _).cast (by unfold Lk.grant; dsimp only; rw [if_neg (show ¬ 0 < gapZ bd ((ct + c) % 4294967296) by omega)]; simp [hp]), kp_self (kp_self (Kp.refl _ _) _ _) _ _⟩
  · by_cases hg : 0 < gapZ bd ((ct + c) % 4294967296)
    · cases d
      all_goals
        go_enter Try.func20, Try.ntmps20
        go_wp2_with (first | (go_at_call 40; refine (within_any _ _ _).mono ?_; rintro e1 w1 ⟨rfl, rfl⟩; rw [HC.out]) | (go_at_call 41; refine (add_any _ _ _).mono ?_; rintro e1 w1 ⟨rfl, rfl⟩) | (go_at_call 42; refine (before_any _ _ _).mono ?_; rintro e1 w1 ⟨rfl, rfl⟩))
        go_ret
        exact ⟨rfl, (((HL.out.set_cr _).set_dr _).set_bd _).cast (by simp [Lk.grant, hp, hg]), kp_self (kp_self (kp_self (Kp.refl _ _) _ _) _ _) _ _⟩
    · cases d
      all_goals
        go_enter Try.func20, Try.ntmps20
        go_wp2_with (first | (go_at_call 40; refine (within_any _ _ _).mono ?_; rintro e1 w1 ⟨rfl, rfl⟩; rw [HC.out]) | (go_at_call 41; refine (add_any _ _ _).mono ?_; rintro e1 w1 ⟨rfl, rfl⟩) | (go_at_call 42; refine (before_any _ _ _).mono ?_; rintro e1 w1 ⟨rfl, rfl⟩))
        go_ret
        exact ⟨rfl, ((HL.out.set_cr _).set_dr _).cast (by unfold Lk.grant; dsimp only; rw [if_neg (show ¬ 0 < gapZ bd ((ct + c) % 4294967296) by omega)]; simp [hp]), kp_self (kp_self (Kp.refl _ _) _ _) _ _⟩
set_option maxRecDepth 100000 in
theorem grant_arg (g : Nat) (l : Lk) (c : Int) (d : Bool) (w : World) (h : LB w g l) (hr : l.rc = true) (hc : isIn c 2147483647 = false) :
    Calls Try.prog 20 #[.pointer (some ⟨g, 0, none⟩), .int .i64 c, .bool d] w fun e w' => e = .returned (.int .i64 1) ∧ w = w' := by
  obtain ⟨s0, s1, s2, s3, s4, s5, s6, s7, s8, s9, s10, s11⟩ := h.facts
  have hl := h.lt
  have HC := hide hc
  rw [hr] at s1
  clear h hc
  go_enter Try.func20, Try.ntmps20
  go_wp2_with (go_at_call 40; refine (within_any _ _ _).mono ?_; rintro e1 w1 ⟨rfl, rfl⟩; rw [HC.out])
  go_ret
  exact ⟨rfl, rfl⟩
set_option maxRecDepth 100000 in
theorem drained_no (g : Nat) (l : Lk) (w : World) (h : LB w g l) (hr : l.rc = false) (hd : l.dr = false ∨ l.cr = 0) :
    Calls Try.prog 28 #[.pointer (some ⟨g, 0, none⟩)] w fun e w' => e = .returned (.bool false) ∧ w = w' := by
  obtain ⟨s0, s1, s2, s3, s4, s5, s6, s7, s8, s9, s10, s11⟩ := h.facts
  have hl := h.lt
  rw [hr] at s1
  clear h hr
  obtain ⟨nm, rc, ct, cr, av, dr, sm, rm, fi, bd, dm⟩ := l
  dsimp only at *
  cases dr
  · go_enter Try.func28, Try.ntmps28
    go_wp2
    go_ret
    exact ⟨rfl, rfl⟩
  · have h0 : cr = 0 := by simpa using hd
    subst h0
    go_enter Try.func28, Try.ntmps28
    go_wp2
    go_ret
    exact ⟨rfl, rfl⟩
set_option maxRecDepth 100000 in
theorem drained_yes (g : Nat) (l : Lk) (w : World) (h : LB w g l) (hr : l.rc = false) (hd : l.dr = true) (hc : 0 < l.cr ∧ l.cr ≤ 4294967295) :
    Calls Try.prog 28 #[.pointer (some ⟨g, 0, none⟩)] w fun e w' => e = .returned (.bool true) ∧ LB w' g (l.on l.cr) ∧ Kp (fun k => k = g) w w' := by
  obtain ⟨s0, s1, s2, s3, s4, s5, s6, s7, s8, s9, s10, s11⟩ := h.facts
  have hl := h.lt
  have HG := hide (goOn_any g l l.cr w h ⟨by omega, hc.2⟩ ⟨by omega, hc.2⟩)
  rw [hr] at s1
  rw [hd] at s5
  have hne : (l.cr == 0) = false := by have := hc.1; simp; omega
  clear h hr hd
  go_enter Try.func28, Try.ntmps28
  go_wp2_with (go_at_call 49; refine HG.out.mono ?_; rintro e1 w1 ⟨rfl, hb, hk⟩)
  go_ret
  exact ⟨rfl, hb, hk⟩
/-- what a Flow says of a link -/
structure PfL (A : Array Value) (ki co cr av : Int) (dr : Bool) : Prop where
  k : A[0]? = some (.int .i64 ki)
  co : A[84]? = some (.int .i64 co)
  cr : A[85]? = some (.int .i64 cr)
  av : A[86]? = some (.int .i64 av)
  dr : A[87]? = some (.bool dr)
  sz : A.size = 128
/-- the receiver's Flow is heard -/
def Lk.hearR (l : Lk) (co cr : Int) (dr : Bool) : Lk := { l with cr := greater 0 (gapZ l.ct ((co + cr) % 4294967296)), dr := dr }
set_option maxRecDepth 100000 in
set_option maxHeartbeats 2000000 in
theorem hearReceiver_any (g : Nat) (l : Lk) (A : Array Value) (ki co cr av : Int) (dr : Bool) (w : World) (h : LB w g l) (hA : PfL A ki co cr av dr) (h1 : cr ≠ -1) (h2 : co ≠ -1) :
    Calls Try.prog 44 #[.pointer (some ⟨g, 0, none⟩), .agg A] w fun e w' => e = .returned (.tuple #[]) ∧ LB w' g (l.hearR co cr dr) ∧ Kp (fun k => k = g) w w' := by
  obtain ⟨V, hV⟩ : ∃ V, w.alloc (.cells A 57) = V := ⟨_, rfl⟩
  have n1 : V.heap[w.heap.size]? = some (.cells A 57 (0, 0)) := hV ▸ heap_alloc_last w _
  have hbV : Below w.heap.size w V := hV ▸ bel1 (Below.refl _ _) (Nat.le_refl _) _
  have hb : LB V g l := h.at (hbV.block _ h.lt)
  have c84 := cellOf n1 84 _ hA.co
  have c85 := cellOf n1 85 _ hA.cr
  have c87 := cellOf n1 87 _ hA.dr
  have lv := (Array.getElem?_eq_some_iff.1 n1).1
  have HV := hide hV
  obtain ⟨s0, s1, s2, s3, s4, s5, s6, s7, s8, s9, s10, s11⟩ := hb.facts
  have f3 := hb.frozen 3
  have f5 := hb.frozen 5
  have hl := hb.lt
  have HL := hide hb
  have HK : Hid (Kp (fun k => k = g) w V) := Kp.ofBelow hbV
  have e1 : (cr == -1) = false := by simp [h1]
  have e2 : (co == -1) = false := by simp [h2]
  have hgw : g ≠ w.heap.size := fun e => by have := h.lt; omega
  clear h hA hV hbV hb n1 h1 h2
  go_enter Try.func44, Try.ntmps44
  obtain ⟨nm, rc, ct, cr0, av0, dr0, sm, rm, fi, bd, dm⟩ := l
  dsimp only at *
  by_cases hp : 0 < gapZ ct ((co + cr) % 4294967296)
  · go_wp2_with (rw [HV.out])
    go_quiet (first | (go_at_call 41; exact Calls.quiet_of_same ((add_any _ _ _).mono fun e w' h => ⟨h.1, h.2.symm⟩)) | (go_at_call 59; exact Calls.quiet_of_same ((gap_any _ _ _).mono fun e w' h => ⟨h.1, h.2.symm⟩)))
    go_wp2
    all_goals first | (exfalso; omega) | skip
    first | go_end0 | refine bodyPost_ret (results_none rfl _ _ _) rfl ?_
    exact ⟨rfl, (((HL.out.drewN nq).set_cr _).set_dr _).cast (by unfold Lk.hearR greater; simp [hp]), kp_self (kp_self (HK.out.drewN nq) _ _) _ _⟩
  · go_wp2_with (rw [HV.out])
    go_quiet (first | (go_at_call 41; exact Calls.quiet_of_same ((add_any _ _ _).mono fun e w' h => ⟨h.1, h.2.symm⟩)) | (go_at_call 59; exact Calls.quiet_of_same ((gap_any _ _ _).mono fun e w' h => ⟨h.1, h.2.symm⟩)))
    go_wp2
    all_goals first | (exfalso; omega) | skip
    first | go_end0 | refine bodyPost_ret (results_none rfl _ _ _) rfl ?_
    exact ⟨rfl, (((HL.out.drewN nq).set_cr _).set_dr _).cast (by unfold Lk.hearR greater; dsimp only; rw [if_neg (show ¬ 0 < gapZ ct ((co + cr) % 4294967296) by omega)]), kp_self (kp_self (HK.out.drewN nq) _ _) _ _⟩
end Go.Proofs.Ytknkmamjdmadcaa
