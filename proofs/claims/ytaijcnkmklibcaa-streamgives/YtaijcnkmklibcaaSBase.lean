
/- Stage 6: a stream in its block; what is small. -/
import Derived.Test.YtaijcnkmklibcaaFHdA
import Derived.Test.YtaijcnkmklibcaaFCheck
import Derived.Test.YtaijcnkmklibcaaFOwnM
import Derived.Test.YtaijcnkmklibcaaGet
import Derived.Deep.RegionHeld3
import Derived.Laws.EntriesVeiled
namespace Go.Proofs.Ytaijcnkmklibcaa
open Go.RowKit Go.Deep
set_option linter.unusedVariables false
set_option linter.unusedSimpArgs false

/-- what the next byte means: 0 in a header, 1 in a size, 2 the offset, 3 the type, 4 the rest -/
def mfn (S mo : Nat) : Value := .func (.func (if mo = 0 then 38 else if mo = 1 then 56 else if mo = 2 then 64 else if mo = 3 then 68 else 72)) #[.pointer (some ⟨S, 0, none⟩)] #[]
/-- a stream in its block -/
def StB (w : World) (S : Nat) (lim tk at_ : Int) (v : Value) (sz kd : Int) (hd : Bool) (er : Int) (mf : Value) : Prop :=
  w.heap[S]? = some (.cells #[.int .i64 lim, .int .i64 tk, .int .i64 at_, v, .int .i64 sz, .int .i64 kd, .bool hd, .int .i64 er, mf] 66 (0, 0))
section
variable {w w' : World} {S : Nat} {lim tk at_ : Int} {v : Value} {sz kd : Int} {hd : Bool} {er : Int} {mf : Value}
theorem StB.lt (h : StB w S lim tk at_ v sz kd hd er mf) : S < w.heap.size := (Array.getElem?_eq_some_iff.1 h).1
theorem StB.cells (h : StB w S lim tk at_ v sz kd hd er mf) : w.cell? ⟨S, 0, none⟩ = some (.int .i64 lim) ∧ w.cell? ⟨S, 1, none⟩ = some (.int .i64 tk) ∧ w.cell? ⟨S, 2, none⟩ = some (.int .i64 at_) ∧ w.cell? ⟨S, 3, none⟩ = some v ∧ w.cell? ⟨S, 4, none⟩ = some (.int .i64 sz) ∧ w.cell? ⟨S, 5, none⟩ = some (.int .i64 kd) ∧ w.cell? ⟨S, 6, none⟩ = some (.bool hd) ∧ w.cell? ⟨S, 7, none⟩ = some (.int .i64 er) ∧ w.cell? ⟨S, 8, none⟩ = some mf := by
  unfold StB at h
  simp [World.cell?, h]
theorem StB.frozen (h : StB w S lim tk at_ v sz kd hd er mf) (j : Nat) : w.frozen? ⟨S, j, none⟩ = false := by
  unfold StB at h
  simp [World.frozen?, h]
theorem StB.below {B : Nat} (h : StB w S lim tk at_ v sz kd hd er mf) (hb : Below B w w') (hS : S < B) : StB w' S lim tk at_ v sz kd hd er mf := (hb.block S hS).trans h
theorem StB.alloc (h : StB w S lim tk at_ v sz kd hd er mf) (o : Obj) : StB (w.alloc o) S lim tk at_ v sz kd hd er mf := (heap_alloc_old w o h.lt).trans h
end
set_option maxRecDepth 100000 in
theorem mayBeLimit_any (m : Int) (w : World) : Calls Try.prog 22 #[.int .i64 m] w fun e w' => e = .returned (.bool (decide (512 ≤ m ∧ m ≤ 1048576))) ∧ w' = w := by
  by_cases h1 : 512 ≤ m
  · by_cases h2 : m ≤ 1048576
    · go_enter Try.func22, Try.ntmps22
      go_wp2
      go_ret
      exact ⟨by simp [h1, h2], rfl⟩
    · go_enter Try.func22, Try.ntmps22
      go_wp2
      go_ret
      exact ⟨by simp [h2], rfl⟩
  · go_enter Try.func22, Try.ntmps22
    go_wp2
    go_ret
    exact ⟨by rw [decide_eq_false (by omega)]; rfl, rfl⟩
theorem typeBehind_any (p : Int) (w : World) : Calls Try.prog 50 #[.int .i64 p] w fun e w' => e = .returned (.int .i64 (if p = 3 then 1 else 0)) ∧ w' = w := by
  by_cases h : p = 3
  · subst h
    go_enter Try.func50, Try.ntmps50
    go_wp2
    go_ret
    exact ⟨rfl, rfl⟩
  · go_enter Try.func50, Try.ntmps50
    go_wp2
    go_ret
    exact ⟨rfl, rfl⟩
/-- the first four bytes of every header -/
def magic : List Nat := [76, 83, 72, 82]
set_option maxHeartbeats 1000000 in
theorem begins_any (a : Option Addr) (n cap : Nat) (l : List Nat) (w : World) (hr : Rd w a n l) (hn : n = 4) :
    Calls Try.prog 61 #[.slice a n cap] w fun e w' => e = .returned (.bool (decide (l = magic))) ∧ Below w.heap.size w w' := by
  have HR := hide hr
  have HN := hide hn
  clear hr hn
  have HH : Hid (Calls Try.prog 15 #[.int .i64 0] w fun e w' => e = .returned (.tuple #[.slice (some ⟨w.heap.size, 0, none⟩) 8 8, .int .i64 0]) ∧ Bl w' w.heap.size (hdr 0) ∧ w'.heap.size = w.heap.size + 1 ∧ Below w.heap.size w w') := header_yes 0 w (.inl rfl)
  go_enter Try.func61, Try.ntmps61
  go_wp2_with fail
  refine HH.out.mono ?_
  rintro e w1 ⟨rfl, h1, h2, h3⟩
  have HB := hide h3
  have HBl : Hid (Rd w1 (some ⟨w.heap.size, 0, none⟩) 8 (hdr 0)) := h1.rd0 (hdr_lt (by omega))
  have HR1 := hide (HR.out.below h3)
  clear h1 h2 h3 HH
  have HP := hide (hasPrefix_any (some ⟨w.heap.size, 0, none⟩) a 8 n 8 cap (hdr 0) l w1 HBl.out HR1.out (by have := HN.out; omega) (by omega) (by omega))
  rw [show (hdr 0).take n = magic by rw [HN.out]; rfl] at HP
  rw [show decide (magic = l) = decide (l = magic) by rw [decide_eq_decide]; exact eq_comm] at HP
  obtain ⟨dd, hdd⟩ : ∃ dd, dd = decide (l = magic) := ⟨_, rfl⟩
  rw [← hdd] at HP
  have HDD : Hid (decide (l = magic) = dd) := hdd.symm
  clear hdd
  go_wp2_with fail
  refine HP.out.mono ?_
  rintro e w2 ⟨rfl, rfl⟩
  go_wp2
  go_ret
  exact ⟨by rw [HDD.out]; rfl, HB.out⟩
section
variable {w w' : World} {S : Nat} {lim tk at_ : Int} {v : Value} {sz kd : Int} {hd : Bool} {er : Int} {mf : Value}
theorem StB.setLim (h : StB w S lim tk at_ v sz kd hd er mf) (x : Int) : StB (w.setCell ⟨S, 0, none⟩ (.int .i64 x)) S x tk at_ v sz kd hd er mf := by
  unfold StB at *
  simp [World.setCell, Array.getElem?_modify, h]
theorem StB.setTk (h : StB w S lim tk at_ v sz kd hd er mf) (x : Int) : StB (w.setCell ⟨S, 1, none⟩ (.int .i64 x)) S lim x at_ v sz kd hd er mf := by
  unfold StB at *
  simp [World.setCell, Array.getElem?_modify, h]
theorem StB.setAt (h : StB w S lim tk at_ v sz kd hd er mf) (x : Int) : StB (w.setCell ⟨S, 2, none⟩ (.int .i64 x)) S lim tk x v sz kd hd er mf := by
  unfold StB at *
  simp [World.setCell, Array.getElem?_modify, h]
theorem StB.setHeld (h : StB w S lim tk at_ v sz kd hd er mf) (x : Value) : StB (w.setCell ⟨S, 3, none⟩ (x)) S lim tk at_ x sz kd hd er mf := by
  unfold StB at *
  simp [World.setCell, Array.getElem?_modify, h]
theorem StB.setSz (h : StB w S lim tk at_ v sz kd hd er mf) (x : Int) : StB (w.setCell ⟨S, 4, none⟩ (.int .i64 x)) S lim tk at_ v x kd hd er mf := by
  unfold StB at *
  simp [World.setCell, Array.getElem?_modify, h]
theorem StB.setKd (h : StB w S lim tk at_ v sz kd hd er mf) (x : Int) : StB (w.setCell ⟨S, 5, none⟩ (.int .i64 x)) S lim tk at_ v sz x hd er mf := by
  unfold StB at *
  simp [World.setCell, Array.getElem?_modify, h]
theorem StB.setHd (h : StB w S lim tk at_ v sz kd hd er mf) (x : Bool) : StB (w.setCell ⟨S, 6, none⟩ (.bool x)) S lim tk at_ v sz kd x er mf := by
  unfold StB at *
  simp [World.setCell, Array.getElem?_modify, h]
theorem StB.setEr (h : StB w S lim tk at_ v sz kd hd er mf) (x : Int) : StB (w.setCell ⟨S, 7, none⟩ (.int .i64 x)) S lim tk at_ v sz kd hd x mf := by
  unfold StB at *
  simp [World.setCell, Array.getElem?_modify, h]
theorem StB.setMf (h : StB w S lim tk at_ v sz kd hd er mf) (x : Value) : StB (w.setCell ⟨S, 8, none⟩ (x)) S lim tk at_ v sz kd hd er x := by
  unfold StB at *
  simp [World.setCell, Array.getElem?_modify, h]
theorem StB.setOther (h : StB w S lim tk at_ v sz kd hd er mf) {b o : Nat} (hne : b ≠ S) (x : Value) : StB (w.setCell ⟨b, o, none⟩ x) S lim tk at_ v sz kd hd er mf := by
  unfold StB at *
  simp [World.setCell, Array.getElem?_modify, hne, h]
end
theorem kp_self {S : Nat} {w w' : World} (h : Kp (fun k => k = S) w w') (o : Nat) (v : Value) : Kp (fun k => k = S) w (w'.setCell ⟨S, o, none⟩ v) := Kp.setCell h rfl v
theorem Kp.fresh {Q : Nat → Prop} {w w' : World} (h : Kp Q w w') {b o : Nat} (hb : w.heap.size ≤ b) (v : Value) : Kp Q w (w'.setCell ⟨b, o, none⟩ v) := by
  obtain ⟨h1, h2, h3, h4, h5⟩ := h
  refine ⟨h1, h2, h3, by simpa using h4, fun k hk hq => ?_⟩
  have hne : b ≠ k := by omega
  rw [← h5 k hk hq]
  simp [World.setCell, Array.getElem?_modify, hne]
theorem Kp.ofBelow {Q : Nat → Prop} {w w' : World} (h : Below w.heap.size w w') : Kp Q w w' := ⟨h.os, h.tape, h.output, h.size, fun k hk _ => h.block k hk⟩
/-- an item in a block of its own -/
def IB (w : World) (R : Nat) (v0 v1 v2 v3 v4 v5 : Value) : Prop := w.heap[R]? = some (.cells #[v0, v1, v2, v3, v4, v5] 51 (0, 0))
def IZ (w : World) (R : Nat) : Prop := IB w R (.int .i64 0) (.int .i64 0) (.int .i64 0) (.int .i64 0) (.slice none 0 0) (.slice none 0 0)
theorem IZ.new (w : World) : IZ (w.alloc (.cells #[.int .i64 0, .int .i64 0, .int .i64 0, .int .i64 0, .slice none 0 0, .slice none 0 0] 51)) w.heap.size := heap_alloc_new _ _
theorem IB.below {w w' : World} {R B : Nat} {v0 v1 v2 v3 v4 v5 : Value} (h : IB w R v0 v1 v2 v3 v4 v5) (hb : Below B w w') (hB : R < B) : IB w' R v0 v1 v2 v3 v4 v5 := (hb.block R hB).trans h
theorem IB.facts {w : World} {R : Nat} {v0 v1 v2 v3 v4 v5 : Value} (h : IB w R v0 v1 v2 v3 v4 v5) : (w.cell? ⟨R, 0, none⟩ = some v0 ∧ w.cell? ⟨R, 1, none⟩ = some v1 ∧ w.cell? ⟨R, 2, none⟩ = some v2 ∧ w.cell? ⟨R, 3, none⟩ = some v3 ∧ w.cell? ⟨R, 4, none⟩ = some v4 ∧ w.cell? ⟨R, 5, none⟩ = some v5) ∧ ∀ j, w.frozen? ⟨R, j, none⟩ = false := by
  unfold IB at h
  simp [World.cell?, World.frozen?, h]
theorem IB.lt {w : World} {R : Nat} {v0 v1 v2 v3 v4 v5 : Value} (h : IB w R v0 v1 v2 v3 v4 v5) : R < w.heap.size := (Array.getElem?_eq_some_iff.1 h).1
theorem IB.setOther {w : World} {R : Nat} {v0 v1 v2 v3 v4 v5 : Value} (h : IB w R v0 v1 v2 v3 v4 v5) {b o : Nat} (hne : b ≠ R) (x : Value) : IB (w.setCell ⟨b, o, none⟩ x) R v0 v1 v2 v3 v4 v5 := by
  unfold IB at *
  simp [World.setCell, Array.getElem?_modify, hne, h]
/-- what is stored into an item's block -/
theorem IB.put {w : World} {R : Nat} {u0 u1 u2 u3 u4 u5 : Value} (h : IB w R u0 u1 u2 u3 u4 u5) (v0 v1 v2 v3 v4 v5 : Value) : IB ((((((w.setCell ⟨R, 0, none⟩ v0).setCell ⟨R, 1, none⟩ v1).setCell ⟨R, 2, none⟩ v2).setCell ⟨R, 3, none⟩ v3).setCell ⟨R, 4, none⟩ v4).setCell ⟨R, 5, none⟩ v5) R v0 v1 v2 v3 v4 v5 := by
  unfold IB at *
  simp [World.setCell, Array.getElem?_modify, h]
/-- an item's value -/
def itV (k p ty ch : Int) (x y : Value) : Value := .agg #[.int .i64 k, .int .i64 p, .int .i64 ty, .int .i64 ch, x, y]
def it0 : Value := itV 0 0 0 0 (.slice none 0 0) (.slice none 0 0)
theorem rd_set {w : World} {a : Option Addr} {n S : Nat} {l : List Nat} (h : Rd w a n l) (hb : ∀ b o, a = some ⟨b, o, none⟩ → b ≠ S) (j : Nat) (x : Value) : Rd (w.setCell ⟨S, j, none⟩ x) a n l := by
  obtain ⟨h1, h2, h3⟩ := h
  refine ⟨h1, h2, fun hn => ?_⟩
  obtain ⟨b, off, ha, hlt, hc⟩ := h3 hn
  have hne : S ≠ b := fun e => hb b off ha e.symm
  refine ⟨b, off, ha, by simpa using hlt, fun i hi => (World.cell?_of_block (a := ⟨b, off + i, none⟩) ?_).trans (hc i hi)⟩
  simp [World.setCell, Array.getElem?_modify, hne]
end Go.Proofs.Ytaijcnkmklibcaa
