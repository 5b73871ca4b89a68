
/- Stage 17: the iterator that All makes, of a queue with one entry. -/
import Derived.Test.YtnbhifakfehefaaKPres
import Derived.LoopIn
import Derived.LoopNIn
import Derived.OwnWalkIn
import Derived.RangeFuncCalls
import Derived.RangeFuncRecord
import Derived.TacticsInMore
import Derived.Shelf.RegionOpen
import Derived.RangeFuncBound
import Derived.RangeFuncNested
namespace Go.Proofs.Ytnbhifakfehefaa
open Go.RowKit Go.Shelf
set_option linter.unusedVariables false
set_option linter.unusedSimpArgs false
attribute [local go_sem] Oper.semAt_some
set_option maxRecDepth 100000 in
set_option maxHeartbeats 4000000 in
theorem all_seq (n B qb b bq : Nat) (c : Cf) (hi : Int) (A F : Value) (H : List Nat) (E : Nat → It) (D : Nat → List Nat) (w : World) (hs : Qs w B qb c hi A F [b] H E D) (hbq : w.heap[bq]? = some (.cells #[.pointer (some ⟨qb, 0, none⟩)] 25 (0, 0))) :
    SeqStopsK Fence.wide n Try.prog 36 #[.pointer (some ⟨bq, 0, none⟩)] (fun v : Option Addr × Nat => #[((E b).put (.slice v.1 (D b).length v.2)).ent]) (fun _ _ => True) (fun xs => ∃ v, xs = [v]) (fun pre => ∃ v, pre = [v]) 1 w := by
  intro l J Jx W hW hJ hJx hY h0
  have hdd : ∀ k : Nat, (Fence.wide.depth.isSome = true → 1 ≤ k) := fun k h => by cases h
  have hc : W.cell? ⟨bq, 0, none⟩ = some (.pointer (some ⟨qb, 0, none⟩)) := by
    have := (hW.block bq (Array.getElem?_eq_some_iff.1 hbq).1).trans hbq
    simp [World.cell?, this]
  have HQ := hide (hs.below hW)
  have HJ := hide hJ
  have HY := hide hY
  have H0 := hide h0
  clear hs hbq hJ hJx hY h0
  refine callsIn_of_wp Try.func36 rfl trivial ?_ rfl
  simp only [Try.ntmps36, List.size_toArray, List.length_cons, List.length_nil, Nat.reduceAdd, Nat.reduceSub, Array.replicate_succ, Array.replicate_zero, List.push_toArray, List.append_toArray, List.nil_append, List.cons_append]
  gi_wp2_with fail
  refine ⟨trivial, hdd _, ?_⟩
  refine (callsIn_wide.2 (present_one B qb b c hi A F H E D W HQ.out)).mono ?_
  rintro e w1 ⟨g, rfl, HG, hb1⟩
  have HB1 := hide hb1
  clear hb1
  have hb1 := HB1.out
  have hq1 := HQ.out.below hb1
  obtain ⟨z0, z1, z2, z3, z4, z5, z6⟩ := ent_cells HG.out
  have hgl : g < w1.heap.size := (Array.getElem?_eq_some_iff.1 HG.out).1
  have hob := hq1.dat b (by simp)
  have hdl := hq1.dl b (by simp)
  obtain ⟨ad, cd, hd⟩ := row_form hob.1
  have HD := hide hd
  rw [hd] at z6
  obtain ⟨W2, hW2⟩ : ∃ W2, w1.alloc (Obj.cells #[.int .i64 (E b).seq, .int .i64 (E b).pri, .int .i64 (E b).exp, .bool (E b).dur, .int .i64 (E b).cnt, .int .i64 (E b).hol, .slice ad (D b).length cd] 37) = W2 := ⟨_, rfl⟩
  have hb2 : Below w1.heap.size w1 W2 := by rw [← hW2]; exact bel1 (Below.refl _ _) (Nat.le_refl _) _
  have HOW : Hid (Calls Try.prog 25 #[.agg #[.int .i64 (E b).seq, .int .i64 (E b).pri, .int .i64 (E b).exp, .bool (E b).dur, .int .i64 (E b).cnt, .int .i64 (E b).hol, .slice ad (D b).length cd]] W2 fun e w' => ∃ v : Option Addr × Nat, e = .returned (.agg #[.int .i64 (E b).seq, .int .i64 (E b).pri, .int .i64 (E b).exp, .bool (E b).dur, .int .i64 (E b).cnt, .int .i64 (E b).hol, .slice v.1 (D b).length v.2]) ∧ Below W2.heap.size W2 w') := by
    have := own_any (E b) (D b) W2 ((hob.below hb2).rb) (by omega)
    unfold It.put It.ent at this
    rw [hd] at this
    exact this.mono fun e w' ⟨v, he, ho, hb⟩ => by
      obtain ⟨a1, c1, hv⟩ := row_form ho.1
      subst hv
      exact ⟨(a1, c1), he, hb⟩
  have HJ2 : Hid (∀ w3, Below W2.heap.size W2 w3 → J [] w3) := fun w3 hb => by
    have hbb : Below W.heap.size W w3 := belOn (belOn hb1 hb1.size hb2) (by have := hb1.size; have := hb2.size; omega) hb
    exact HJ.out [] W w3 none H0.out ⟨hbb.os, hbb.tape, hbb.output, hbb.size, fun k hk _ => hbb.block k hk⟩ (fun r e => by cases e)
  have HW2 := hide hW2
  clear hW2 hb2 hob hq1 hb1 hd
  unfold It.put It.ent at HY
  gi_wp2_with fail
  gi_loopw [4, 8] (fun _ v8 wr => (v8 = .int .i64 0 ∧ wr = w1) ∨ (v8 = .int .i64 1 ∧ Hid (∃ v, J [v] wr))) (fun _ v8 _ => 2 - (intOf v8).toNat)
  case atStart => exact .inl ⟨rfl, rfl⟩
  case round =>
    rename World => wr
    rcases hrel with ⟨rfl, rfl⟩ | ⟨rfl, HJ1⟩
    · gi_wp2_with fail
      rw [HW2.out]
      refine ⟨trivial, hdd _, ?_⟩
      refine (callsIn_wide.2 HOW.out).mono ?_
      rintro e w3 ⟨v, rfl, hb3⟩
      obtain ⟨fn, tm, asg, bdy, hy, hR⟩ := HY.out [] v w3 (HJ2.out w3 hb3) (by simp)
      have HR := hide hR
      clear hR hb3
      gi_wp2_with fail
      refine ⟨hdd _, ?_⟩
      refine HR.out.mono ?_
      rintro e W3 (⟨rfl, hJ1, _⟩ | ⟨rfl, hx1⟩)
      · have HJ1 : Hid (∃ v, J [v] W3) := ⟨v, hJ1⟩
        clear hJ1
        gi_wp2
        go_roundw
        case rel => first | exact .inr ⟨rfl, HJ1⟩ | exact .inr ⟨trivial, HJ1⟩ | simpa using HJ1
        case measure => simp [intOf]
      · have HX1 := hide hx1
        clear hx1
        gi_wp2
        refine bodyPost_ret (results_none rfl _ _ _) rfl ?_
        exact ⟨⟨_, rfl⟩, .inr ⟨[v], ⟨v, rfl⟩, HX1.out⟩⟩
    · gi_wp2
      go_end0
      obtain ⟨v, hj⟩ := HJ1.out
      exact ⟨⟨_, rfl⟩, .inl ⟨[v], ⟨v, rfl⟩, hj⟩⟩
end Go.Proofs.Ytnbhifakfehefaa
