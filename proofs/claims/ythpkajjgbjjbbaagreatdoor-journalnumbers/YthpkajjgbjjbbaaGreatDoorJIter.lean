
/- Stage 20: the iterator that batchesOf makes. -/
import Derived.Test.YthpkajjgbjjbbaaGreatDoorJSeq
import Derived.LoopIn
import Derived.LoopNIn
import Derived.OwnWalkIn
import Derived.RangeFuncCalls
import Derived.RangeFuncRecord
import Derived.TacticsInMore
import Derived.Shelf.RegionOpen
import Derived.RangeFuncBound
namespace Go.Proofs.YthpkajjgbjjbbaaGreatDoor
open Go.RowKit Go.Shelf
set_option linter.unusedVariables false
set_option linter.unusedSimpArgs false
attribute [local go_sem] Oper.semAt_some
def encB (x : Value × Value) : Array Value := #[x.1, x.2]
/-- a pointer to a fault, as an error -/
def ftV (p : Nat) : Value := .iface 130 (.pointer (some ⟨p, 0, none⟩))
def fltA (g : Addr) (t c : Nat) : Array Value := #[.int .i64 (t : Int), errV g c]
def GB (g : Addr) (bL : Nat) (a : Option Addr) (cap : Nat) (l : List Nat) (t : Nat × Nat) (W : World) : Prop := t.1 ≤ l.length ∧ W.heap[bL]? = some (.cells #[.slice a l.length cap] 23 (0, 0)) ∧ Rd W a l.length l ∧ Eb W g
/-- what is told at a place -/
def TolB (g : Addr) (l : List Nat) (t : Nat × Nat) (x : Value × Value) (t' : Nat × Nat) (A A' : World) : Prop :=
  Below A.heap.size A A' ∧ t.2 = 0 ∧ t.1 < l.length ∧
  (((fst1 (l.drop t.1)).1 ≠ 0 ∧ t' = (t.1, (fst1 (l.drop t.1)).1) ∧ ∃ p, x = (.slice none 0 0, ftV p) ∧ A.heap.size ≤ p ∧ A'.heap[p]? = some (.cells (fltA g t.1 (fst1 (l.drop t.1)).1) 134 (0, 0))) ∨
   ((fst1 (l.drop t.1)).1 = 0 ∧ t' = (t.1 + (fst1 (l.drop t.1)).2.2, 0) ∧ ∃ v, x = (v, .nilIface) ∧ Bat A.heap.size A' v (fst1 (l.drop t.1)).2.1))
def FinB (l : List Nat) (t : Nat × Nat) : Prop := t.1 = l.length ∨ t.2 ≠ 0
theorem errV_form (g : Addr) {c : Nat} (h : c ≠ 0) : ∃ tx vx, errV g c = .iface tx vx := by
  match c, h with
  | 0, h => exact absurd rfl h
  | 1, _ => exact ⟨_, _, rfl⟩
  | c + 2, _ => exact ⟨_, _, rfl⟩
theorem own_belowJ {β : Type} {N : Nat} {I : β → World → Prop} (h : OwnFrom N I) {s : β} {A W : World} (hs : I s A) (hb : Below A.heap.size A W) : I s W :=
  h s A W none hs ⟨hb.os, hb.tape, hb.output, hb.size, fun k hk _ => hb.block k hk⟩ (fun r e => by cases e)
set_option maxRecDepth 100000 in
set_option maxHeartbeats 4000000 in
theorem batches_seq (g : Addr) (bL : Nat) (a : Option Addr) (cap : Nat) (l : List Nat) (hc : l.length ≤ cap) (hn : l.length ≤ 140737488355328) :
    SeqJ Tryz.prog 116 #[.pointer (some ⟨bL, 0, none⟩)] encB (GB g bL a cap l) (fun _ _ _ _ => False) (TolB g l) (fun t t' => t' = t) (fun t => t = (0, 0)) (FinB l) := by
  intro yl n t0 J Jx W hyl hJ hJx hG hS hY hini h0
  subst hini
  have hdd : ∀ k : Nat, (Fence.wide.depth.isSome = true → 1 ≤ k) := fun k h => by cases h
  have HJ := hide hJ
  have HG := hide hG
  have HY := hide hY
  have H0 := hide h0
  clear hJ hG hY h0 hJx hS
  refine callsIn_of_wp Tryz.func116 rfl trivial ?_ rfl
  simp only [Tryz.ntmps116, List.size_toArray, List.length_cons, List.length_nil, Nat.reduceAdd, Nat.reduceSub, Array.replicate_succ, Array.replicate_zero, List.push_toArray, List.append_toArray, List.nil_append, List.cons_append]
  gi_wp2
  gi_loopw [3] (fun v3 wr => ∃ t : Nat × Nat, v3 = .int .i64 (t.1 : Int) ∧ t.2 = 0 ∧ t.1 ≤ l.length ∧ Hid (J t wr)) (fun v3 _ => l.length - (intOf v3).toNat)
  case atStart => exact ⟨(0, 0), rfl, rfl, Nat.zero_le _, H0⟩
  case round =>
    obtain ⟨t, rfl, ht2, hle, HJr⟩ := hrel
    clear H0
    rename World => wr
    obtain ⟨_, hbl, hrd, hE⟩ := HG.out t wr HJr.out
    have hcl : wr.cell? ⟨bL, 0, none⟩ = some (.slice a l.length cap) := cellOf hbl 0 _ rfl
    by_cases hi : t.1 < l.length
    · obtain ⟨b, off, rfl, _⟩ := hrd.2.2 (by omega)
      have hq : ¬ cap = t.1 := by omega
      have HF := hide (first_any g b (off + t.1) (l.length - t.1) (cap - t.1) (l.drop t.1) wr hE (hrd.drop (by omega)) (by omega) (by omega))
      have HT2 := hide ht2
      clear hbl hrd hE ht2
      gi_wp2_with fail
      refine ⟨trivial, hdd _, ?_⟩
      refine (callsIn_wide.2 HF.out).mono ?_
      rintro e w1 ⟨hfs, hb1⟩
      have HB1 := hide hb1
      clear hb1 hcl HF
      rcases hfs with ⟨hne, z, rfl⟩ | ⟨he, v, rfl, hbt⟩
      · obtain ⟨tx, vx, hev⟩ := errV_form g hne
        have HNE := hide hne
        have HEV := hide hev
        rw [hev]
        clear hne hev
        have hT : TolB g l t (.slice none 0 0, ftV w1.heap.size) (t.1, (fst1 (l.drop t.1)).1) wr (w1.alloc (.cells #[.int .i64 (t.1 : Int), .iface tx vx] 134)) :=
          ⟨bel1 HB1.out HB1.out.size _, HT2.out, hi, .inl ⟨HNE.out, rfl, w1.heap.size, rfl, HB1.out.size, by rw [fltA, HEV.out]; exact heap_new _ _⟩⟩
        obtain ⟨fn, tm, asg, bdy, hy, hR⟩ := HY.out (n - 1) t (.slice none 0 0, ftV w1.heap.size) (t.1, (fst1 (l.drop t.1)).1) wr _ HJr.out hT
        simp only [encB, ftV] at hy
        have HR := hide hR
        clear hR hT
        gi_wp2_with fail
        refine ⟨hdd _, ?_⟩
        refine HR.out.mono ?_
        rintro e W3 ⟨hkp, (⟨rfl, t'', ht, hJ1⟩ | ⟨rfl, hx1⟩)⟩
        · subst ht
          have HJ1 := hide hJ1
          clear hJ1 hkp
          gi_wp2
          refine bodyPost_ret (results_none rfl _ _ _) rfl ?_
          exact ⟨⟨_, rfl⟩, .inl ⟨_, .inr HNE.out, HJ1.out⟩⟩
        · have HX1 := hide hx1
          clear hx1 hkp
          gi_wp2
          refine bodyPost_ret (results_none rfl _ _ _) rfl ?_
          exact ⟨⟨_, rfl⟩, .inr HX1.out⟩
      · have hsz := fst1_size _ he
        rw [List.length_drop] at hsz
        have hT : TolB g l t (v, .nilIface) (t.1 + (fst1 (l.drop t.1)).2.2, 0) wr w1 :=
          ⟨HB1.out, HT2.out, hi, .inr ⟨he, rfl, v, rfl, hbt⟩⟩
        obtain ⟨fn, tm, asg, bdy, hy, hR⟩ := HY.out (n - 1) t (v, .nilIface) (t.1 + (fst1 (l.drop t.1)).2.2, 0) wr _ HJr.out hT
        simp only [encB] at hy
        obtain ⟨sz, hszz⟩ : ∃ sz, (fst1 (l.drop t.1)).2.2 = sz := ⟨_, rfl⟩
        rw [hszz] at hsz hR ⊢
        obtain ⟨hs1, hs2, _⟩ := hsz
        have hwn : IntKind.i64.wrap ((t.1 : Int) + (sz : Int)) = (t.1 : Int) + (sz : Int) := by rw [IntKind.wrap_i64]; omega
        have HR := hide hR
        clear hR hT hbt he hszz
        gi_wp2_with fail
        refine ⟨hdd _, ?_⟩
        refine HR.out.mono ?_
        rintro e W3 ⟨hkp, (⟨rfl, t'', ht, hJ1⟩ | ⟨rfl, hx1⟩)⟩
        · subst ht
          have HJ1 := hide hJ1
          clear hJ1 hkp
          gi_wp2_with fail
          go_roundw
          case rel => exact ⟨_, by go_num, rfl, by omega, HJ1.out⟩
          case measure => simp [intOf]; omega
        · have HX1 := hide hx1
          clear hx1 hkp
          gi_wp2
          refine bodyPost_ret (results_none rfl _ _ _) rfl ?_
          exact ⟨⟨_, rfl⟩, .inr HX1.out⟩
    · have hil : t.1 = l.length := by omega
      gi_wp2_with fail
      go_end0
      exact ⟨⟨_, rfl⟩, .inl ⟨t, .inl hil, HJr.out⟩⟩
end Go.Proofs.YthpkajjgbjjbbaaGreatDoor
