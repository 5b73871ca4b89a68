import Derived.Test.YtdcoafpenkofoaaGreatDoorJOneM9
import Derived.Test.YtdcoafpenkofoaaGreatDoorDWay
import Derived.BigQuiet
import Derived.WalkSmall

/- Stage 20: what a head says; the records of a body. -/
namespace Go.Proofs.YtdcoafpenkofoaaGreatDoor
open Go.RowKit
set_option linter.unusedVariables false
set_option linter.unusedSimpArgs false
/-- the error of a beginning; its variable -/
def eB (g : Addr) : Value := .iface 255 (.pointer (some g))
def nB (n : Int) : Value := .iface 82 (.int .i64 n)
def Eb (w : World) (g : Addr) : Prop := w.cell? ⟨1, 0, none⟩ = some (eB g)
def errV (g : Addr) : Nat → Value
  | 0 => .nilIface
  | 1 => eB g
  | _ => nB 201
theorem Eb.below {w w' : World} {g : Addr} (h : Eb w g) (hb : Below w.heap.size w w') : Eb w' g :=
  (hb.cell (p := ⟨1, 0, none⟩) (block_lt_of_cell h)).trans h
set_option maxHeartbeats 1000000 in
theorem sumStands_any (b off n cap k : Nat) (l : List Nat) (w : World) (hrd : Rd w (some ⟨b, off, none⟩) n l) (hc : n ≤ cap) (hn : n ≤ 140737488355328) (hk : k + 4 ≤ n) :
    Calls Tryz.prog 154 #[.slice (some ⟨b, off, none⟩) n cap, .int .i64 (k : Int)] w fun e w' => e = .returned (.bool (sst l k)) ∧ Below w.heap.size w w' := by
  have hG := get4 (some ⟨b, off, none⟩) n cap k l w hk hc (by omega) hrd
  obtain ⟨W, hW⟩ : ∃ W, w.alloc (.cells #[.slice (some ⟨b, off, none⟩) k cap] 23) = W := ⟨_, rfl⟩
  have hb : Below w.heap.size w W := by rw [← hW]; exact bel1 (Below.refl _ _) (Nat.le_refl _) _
  have hS := sum1 w.heap.size (some ⟨b, off, none⟩) k cap (l.take k) W (by rw [← hW]; exact cellOf (heap_new w _) 0 _ rfl) (by omega) ((hrd.take (by omega)).below hb)
  have h1 := getN_lt4 (l := (l.drop k).take 4) (fun c hc => hrd.2.1 c (List.mem_of_mem_drop (List.mem_of_mem_take hc))) (by rw [List.length_take]; omega)
  have h2 := sumN_lt (l := l.take k) (fun c hc => hrd.2.1 c (List.mem_of_mem_take hc))
  have HF : Hid (sst l k = decide (getN ((l.drop k).take 4) = sumN (l.take k))) := by
    show sst l k = _
    unfold sst
    rw [decide_eq_true (by rw [hrd.1]; exact hk), Bool.true_and]
  generalize getN ((l.drop k).take 4) = G at *
  generalize sumN (l.take k) = Y at *
  have HG := hide hG
  have HS := hide hS
  have HB := hide hb
  have HW := hide hW
  clear hG hS hb hW hrd
  go_enter Tryz.func154, Tryz.ntmps154
  go_wp2_with (go_at_call 183; refine HG.out.mono ?_; rintro e w' ⟨rfl, rfl⟩)
  rw [HW.out]
  refine HS.out.mono ?_
  rintro e w' ⟨rfl, hb'⟩
  have HB' : Hid (Below w.heap.size w w') := belOn HB.out HB.out.size hb'
  clear hb'
  go_wp2
  go_ret
  refine ⟨?_, HB'.out⟩
  rw [HF.out]
  congr 2
  by_cases h : G = Y
  · subst h; simp
  · have : (G : Int) ≠ (Y : Int) := by omega
    simp [h, this]
/-- what a head says -/
def BsP (g : Addr) (n G : Nat) (s : Bool) (e : Ending) : Prop := (n < 8 ∧ e = .returned (.tuple #[.int .i64 0, eB g])) ∨ (8 ≤ n ∧ (G < 5 ∨ s = false) ∧ e = .returned (.tuple #[.int .i64 0, nB 201])) ∨ (8 ≤ n ∧ ¬ (G < 5 ∨ s = false) ∧ e = .returned (.tuple #[.int .i64 (G : Int), .nilIface]))
set_option maxHeartbeats 1000000 in
theorem bodySize_any (g : Addr) (a : Option Addr) (n cap : Nat) (l : List Nat) (w : World) (hE : Eb w g) (hrd : Rd w a n l) (hc : n ≤ cap) (hn : n ≤ 140737488355328) :
    Calls Tryz.prog 153 #[.slice a n cap] w fun e w' => BsP g n (getN (l.take 4)) (sst l 4) e ∧ Below w.heap.size w w' := by
  unfold Eb eB at hE
  by_cases h8 : n < 8
  · go_enter Tryz.func153, Tryz.ntmps153
    go_wp2_with (go_quiet (fail))
    go_ret2
    exact ⟨.inl ⟨h8, rfl⟩, below_drewN (Below.refl _ _) _⟩
  · obtain ⟨b, off, rfl, _⟩ := hrd.2.2 (by omega)
    have HG := hide (get4_zero (some ⟨b, off, none⟩) n cap l w (by omega) hc (by omega) hrd)
    have HS := hide (sumStands_any b off n cap 4 l w hrd hc hn (by omega))
    have h1 := getN_lt4 (l := l.take 4) (fun c hc => hrd.2.1 c (List.mem_of_mem_take hc)) (by rw [List.length_take]; omega)
    generalize getN (l.take 4) = G at *
    clear hrd
    go_enter Tryz.func153, Tryz.ntmps153
    by_cases h5 : G < 5
    · have HQ : Hid (8 ≤ n ∧ (G < 5 ∨ sst l 4 = false)) := ⟨by omega, .inl h5⟩
      go_wp2_with (go_at_call 183; refine HG.out.mono ?_; rintro e w' ⟨rfl, rfl⟩)
      go_ret2
      exact ⟨.inr (.inl ⟨HQ.out.1, HQ.out.2, rfl⟩), Below.refl _ _⟩
    · cases hs : sst l 4
      · rw [hs] at HS
        go_wp2_with (first | (go_at_call 183; refine HG.out.mono ?_; rintro e w' ⟨rfl, rfl⟩) | (go_at_call 154; refine HS.out.mono ?_; rintro e w' ⟨rfl, hb⟩))
        go_ret2
        exact ⟨.inr (.inl ⟨by omega, .inr rfl, rfl⟩), hb⟩
      · rw [hs] at HS
        go_wp2_with (first | (go_at_call 183; refine HG.out.mono ?_; rintro e w' ⟨rfl, rfl⟩) | (go_at_call 154; refine HS.out.mono ?_; rintro e w' ⟨rfl, hb⟩))
        go_ret2
        exact ⟨.inr (.inr ⟨by omega, fun h => h.elim h5 (fun h => by cases h), rfl⟩), hb⟩
end Go.Proofs.YtdcoafpenkofoaaGreatDoor
