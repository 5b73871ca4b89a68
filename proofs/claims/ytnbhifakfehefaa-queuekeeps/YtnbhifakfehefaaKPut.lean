
/- Stage 17: a queue, whole; Put. -/
import Derived.Test.YtnbhifakfehefaaKPutN
import Derived.BigQuiet
namespace Go.Proofs.Ytnbhifakfehefaa
open Go.RowKit
set_option linter.unusedVariables false
set_option linter.unusedSimpArgs false
set_option maxRecDepth 100000 in
set_option maxHeartbeats 4000000 in
theorem put_ok (B qb : Nat) (c : Cf) (hi : Int) (A F : Value) (L H : List Nat) (E : Nat → It) (D : Nat → List Nat) (x : It) (l : List Nat) (w : World) (hs : Qs w B qb c hi A F L H E D) (hr : Rb w x.dat l) (hmy : x.may = true) (hsq : hi < x.seq) (hll : l.length ≤ 1048576) (hLm : (L.length : Int) < c.m) (hc4 : c.m ≤ 4096) :
    Calls Try.prog 12 #[.pointer (some ⟨qb, 0, none⟩), x.ent] w fun e w' => e = .returned (.int .i64 0) ∧ ∃ (b : Nat) (v A' F' : Value) (H' : List Nat), Hid (Qs w' B qb c x.seq A' F' (L ++ [b]) H' (upd E b (x.put v)) (updL D b l) ∧ w.heap.size ≤ b ∧ Kp (inQ qb A F L) w w') := by
  obtain ⟨a, cap, hd, hnil, hcap, hrd⟩ := hr
  unfold It.ent
  rw [hd]
  have HMY : Hid (∀ w1, Calls Try.prog 24 #[.agg #[.int .i64 x.seq, .int .i64 x.pri, .int .i64 x.exp, .bool x.dur, .int .i64 x.cnt, .int .i64 x.hol, (.slice a l.length cap)]] w1 fun e w' => e = .returned (.bool x.may) ∧ Below w1.heap.size w1 w') := fun w1 => by have := may_any x w1; unfold It.ent at this; rw [hd] at this; exact this
  have hmx : Try.prog.follows .mixedOrders = true := by kernel_rfl
  obtain ⟨W0, hW0⟩ : ∃ W0, w.alloc (Obj.cells #[.int .i64 x.seq, .int .i64 x.pri, .int .i64 x.exp, .bool x.dur, .int .i64 x.cnt, .int .i64 x.hol, (.slice a l.length cap)] 37) = W0 := ⟨_, rfl⟩
  have HB0 : Hid (Below w.heap.size w W0) := by rw [← hW0]; exact bel1 (Below.refl _ _) (Nat.le_refl _) _
  have hs0 : w.heap.size < W0.heap.size := by rw [← hW0]; simp
  have hh0 : W0.heap[w.heap.size]? = some (.cells #[.int .i64 x.seq, .int .i64 x.pri, .int .i64 x.exp, .bool x.dur, .int .i64 x.cnt, .int .i64 x.hol, (.slice a l.length cap)] 37 (0, 0)) := by rw [← hW0]; exact heap_new _ _
  have HSK : Hid (∀ W1 : World, Hid (Below W0.heap.size W0 W1) → W1.cell? ⟨w.heap.size, 0, none⟩ = some (.int .i64 x.seq) ∧ W1.cell? ⟨w.heap.size, 1, none⟩ = some (.int .i64 x.pri) ∧ W1.cell? ⟨w.heap.size, 2, none⟩ = some (.int .i64 x.exp) ∧ W1.cell? ⟨w.heap.size, 3, none⟩ = some (.bool x.dur) ∧ W1.cell? ⟨w.heap.size, 4, none⟩ = some (.int .i64 x.cnt) ∧ W1.cell? ⟨w.heap.size, 5, none⟩ = some (.int .i64 x.hol) ∧ W1.cell? ⟨w.heap.size, 6, none⟩ = some (.slice a l.length cap) ∧ W1.cell? ⟨qb, 5, none⟩ = some (.int .i64 hi)) := fun W1 hb => by
    obtain ⟨q0, q1, q2, q3, q4, q5, q6⟩ := ent_cells ((hb.out.block _ hs0).trans hh0)
    exact ⟨q0, q1, q2, q3, q4, q5, q6, ((hs.below HB0.out).below hb.out).q.cell.2.2.2.2.2.1⟩
  have HD0 : Hid (Below W0.heap.size W0 W0.drew) := (Below.refl _ W0).drew
  have HW0 := hide hW0
  have HS := hide hs
  have hqn : qb < w.heap.size := hs.q.lt
  have HWN : Hid (∀ w4, Hid (Below W0.heap.size W0 w4) → Calls Try.prog 25 #[.agg #[.int .i64 x.seq, .int .i64 x.pri, .int .i64 x.exp, .bool x.dur, .int .i64 x.cnt, .int .i64 x.hol, .slice a l.length cap]] w4 fun e w' => ∃ v, e = .returned (.agg #[.int .i64 x.seq, .int .i64 x.pri, .int .i64 x.exp, .bool x.dur, .int .i64 x.cnt, .int .i64 x.hol, v]) ∧ Hid (Ob w4.heap.size w' v l) ∧ Below w4.heap.size w4 w') := fun w4 hb => by
    have := own_any x l w4 (by rw [hd]; exact ⟨a, cap, rfl, hnil, hcap, hrd.below (belOn HB0.out (Nat.le_of_lt hs0) hb.out)⟩) (by omega)
    unfold It.put It.ent at this
    rw [hd] at this
    exact this
  obtain ⟨i0, hi0, hz0, hz1, hz2⟩ := info_parts Try.infoP
  have HI := hide hi0
  have HZ0 := hide hz0
  have HZ1 := hide hz1
  have HZ2 := hide hz2
  clear hi0 hz0 hz1 hz2
  have HBq : Hid (B ≤ w.heap.size) := by have := hs.lo.1; have := hs.q.lt; show B ≤ w.heap.size; omega
  obtain ⟨a6, cap6, hA⟩ := row_form hs.ra
  have HSW : Hid (∀ w4, Hid (Below W0.heap.size W0 w4) → Qs w4 B qb c hi A F L H E D) := fun w4 hb => (hs.below HB0.out).below hb.out
  have HAA := hide hA
  clear hW0 hh0 hs hrd hd hA
  have HX0 : Hid (x.hol = 0) := by
    unfold It.may at hmy
    exact (of_decide_eq_true hmy).2.2.2.2.2.2.2
  rw [hmy] at HMY
  clear hmy
  go_enter Try.func12, Try.ntmps12
  go_wp2_with fail
  rw [HW0.out]
  go_region_held (fun W1 => W1.cell? ⟨w.heap.size, 0, none⟩ = some (.int .i64 x.seq) ∧ W1.cell? ⟨w.heap.size, 1, none⟩ = some (.int .i64 x.pri) ∧ W1.cell? ⟨w.heap.size, 2, none⟩ = some (.int .i64 x.exp) ∧ W1.cell? ⟨w.heap.size, 3, none⟩ = some (.bool x.dur) ∧ W1.cell? ⟨w.heap.size, 4, none⟩ = some (.int .i64 x.cnt) ∧ W1.cell? ⟨w.heap.size, 5, none⟩ = some (.int .i64 x.hol) ∧ W1.cell? ⟨w.heap.size, 6, none⟩ = some (.slice a l.length cap) ∧ W1.cell? ⟨qb, 5, none⟩ = some (.int .i64 hi)) (first | exact HSK.out _ HD0 | exact HSK.out _ hb3) (first | (go_at_call 24; refine Calls.mono (HMY.out _) ?_; rintro e w3 ⟨rfl, hbb⟩; have hb3 := hide (belOn HD0.out HD0.out.size hbb)))
  have HQ3 := hide (HSW.out w3 hb3)
  obtain ⟨e0, e1, e2, e3, e4, e5, e6, e7⟩ := HSK.out w3 hb3
  obtain ⟨_, d1, _, _, _, _, d6, _⟩ := HQ3.out.q.cell
  rw [HAA.out] at d6
  have hz3 : w.heap.size < w3.heap.size := by have := hb3.out.size; omega
  have hne : ((L.length : Int) == c.m) = false := by rw [beq_eq_false_iff_ne]; omega
  have hns : ¬ x.seq ≤ hi := by omega
  have hnl : ¬ (1048576 : Int) < (l.length : Int) := by omega
  have hnd : decide ((1048576 : Int) < (l.length : Int)) = false := by simp; omega
  have hnd2 : decide (x.seq ≤ hi) = false := by simp; omega
  clear hbb
  go_wp2_with fail
  go_region_held (fun W1 => W1.cell? ⟨qb, 6, none⟩ = some (.slice a6 L.length cap6) ∧ W1.cell? ⟨qb, 1, none⟩ = some (.int .i64 c.m)) (exact ⟨d6, d1⟩) (fail)
  obtain ⟨W4, hW4⟩ : ∃ W4, w3.drew = W4 := ⟨_, rfl⟩
  have hb4 : Hid (Below W0.heap.size W0 W4) := by rw [← hW4]; exact hb3.out.drew
  rw [hW4]
  clear hW4 e0 e1 e2 e3 e4 e5 e6 e7 d1 d6 hz3
  obtain ⟨e0, e1, e2, e3, e4, e5, e6, e7⟩ := HSK.out W4 hb4
  go_wp2_with fail
  refine Calls.mono (HWN.out W4 hb4) ?_
  rintro e w5 ⟨v, rfl, HOB, hb5⟩
  have HB5 : Hid (Below W0.heap.size W0 w5) := belOn hb4.out hb4.out.size hb5
  have HQ5 := hide (HSW.out w5 HB5)
  have hv1 : v.oneCell' = true := by
    rcases HOB.out.1.2 with ⟨rfl, _⟩ | ⟨g, cp, cur, rfl, _⟩ <;> rfl
  obtain ⟨W5, hW5⟩ : ∃ W5, w5.alloc (Obj.cells #[.int .i64 x.seq, .int .i64 x.pri, .int .i64 x.exp, .bool x.dur, .int .i64 x.cnt, .int .i64 x.hol, v, .int .i64 0] 70) = W5 := ⟨_, rfl⟩
  clear e0 e1 e2 e3 e4 e5 e6 e7
  obtain ⟨e0, e1, e2, e3, e4, e5, e6, e7⟩ := HSK.out w5 HB5
  have hz5 : w.heap.size < w5.heap.size := by have := HB5.out.size; omega
  have hq5 : qb < w5.heap.size := by omega
  have f5 := HQ5.out.q.free 5
  have c5 := HQ5.out.q.cell.2.2.2.2.2.1
  obtain ⟨av, cv, hv⟩ := row_form HOB.out.1
  subst hv
  clear hW5
  have hd6 := HQ5.out.q.cell.2.2.2.2.2.2.1
  rw [HAA.out] at hd6
  have f6 := HQ5.out.q.free 6
  have HR6 : Hid ((((w5.setCell ⟨qb, 5, none⟩ (.int .i64 x.seq)).alloc (Obj.cells #[.int .i64 x.seq, .int .i64 x.pri, .int .i64 x.exp, .bool x.dur, .int .i64 x.cnt, .int .i64 x.hol, .slice av l.length cv, .int .i64 0] 70)).alloc (Obj.cells #[.pointer (some ⟨w5.heap.size, 0, none⟩)] 67)).ownsRow B 67 1 (.slice a6 L.length cap6) L.length (L.map ptr)) := by
    rw [← HAA.out]
    exact ((rows_set HQ5.out.ra (fun e => (HQ5.out.q.ne_row HQ5.out.ra e) rfl)).alloc _).alloc _
  have HCN : Hid ((((w5.setCell ⟨qb, 5, none⟩ (.int .i64 x.seq)).alloc (Obj.cells #[.int .i64 x.seq, .int .i64 x.pri, .int .i64 x.exp, .bool x.dur, .int .i64 x.cnt, .int .i64 x.hol, .slice av l.length cv, .int .i64 0] 70)).alloc (Obj.cells #[.pointer (some ⟨w5.heap.size, 0, none⟩)] 67)).cell? ⟨w5.heap.size + 1, 0, none⟩ = some (.pointer (some ⟨w5.heap.size, 0, none⟩))) := by
    have := cell_new1 ((w5.setCell ⟨qb, 5, none⟩ (.int .i64 x.seq)).alloc (Obj.cells #[.int .i64 x.seq, .int .i64 x.pri, .int .i64 x.exp, .bool x.dur, .int .i64 x.cnt, .int .i64 x.hol, .slice av l.length cv, .int .i64 0] 70)) (.pointer (some ⟨w5.heap.size, 0, none⟩)) 67
    show _ = _
    simpa using this
  have HBB : Hid (B ≤ (((w5.setCell ⟨qb, 5, none⟩ (.int .i64 x.seq)).alloc (Obj.cells #[.int .i64 x.seq, .int .i64 x.pri, .int .i64 x.exp, .bool x.dur, .int .i64 x.cnt, .int .i64 x.hol, .slice av l.length cv, .int .i64 0] 70)).alloc (Obj.cells #[.pointer (some ⟨w5.heap.size, 0, none⟩)] 67)).heap.size) := by
    have := HBq.out
    show B ≤ _
    simp
    omega
  have HPR := hide (fun (w7 : World) (A' : Value) => pre_of (w5 := w5) (w7 := w7) (A' := A') (x := x.put (.slice av l.length cv)) (l := l) (o := Obj.cells #[.pointer (some ⟨w5.heap.size, 0, none⟩)] 67) HQ5.out (HOB.out.mono (show B ≤ W4.heap.size by have := HBq.out; have := hb4.out.size; omega)))
  have HQN : Hid (∀ (w7 : World) (A' : Value), w7.ownsRow B 67 1 A' (L.length + 1) (L.map ptr ++ [ptr w5.heap.size]) → (((w5.setCell ⟨qb, 5, none⟩ (.int .i64 x.seq)).alloc (Obj.cells #[.int .i64 x.seq, .int .i64 x.pri, .int .i64 x.exp, .bool x.dur, .int .i64 x.cnt, .int .i64 x.hol, .slice av l.length cv, .int .i64 0] 70)).alloc (Obj.cells #[.pointer (some ⟨w5.heap.size, 0, none⟩)] 67)).grownBy w7 (Value.slice a6 L.length cap6).ownBlock → w7.cell? ⟨qb, 6, none⟩ = some (.slice a6 L.length cap6) ∧ w7.frozen? ⟨qb, 6, none⟩ = false) := fun w7 A' r1 r2 => by
    have q2 : QB (((w5.setCell ⟨qb, 5, none⟩ (.int .i64 x.seq)).alloc (Obj.cells #[.int .i64 x.seq, .int .i64 x.pri, .int .i64 x.exp, .bool x.dur, .int .i64 x.cnt, .int .i64 x.hol, .slice av l.length cv, .int .i64 0] 70)).alloc (Obj.cells #[.pointer (some ⟨w5.heap.size, 0, none⟩)] 67)) qb c x.seq (.slice a6 L.length cap6) F := by
      have := HQ5.out.q.set5 x.seq
      rw [HAA.out] at this
      exact heap_past (heap_past this _) _
    have q3 : QB w7 qb c x.seq (.slice a6 L.length cap6) F := (r2.block qb q2.lt (fun e => (q2.ne_row HR6.out e.symm) rfl)).trans q2
    exact ⟨q3.cell.2.2.2.2.2.2.1, q3.free 6⟩
  have hL4 : L.length < 4096 := by omega
  unfold ptr at HR6 HQN
  go_wp2_with (at_builtin; refine wpList_append_new _ rfl (.tmp 49) (.tmp 51) 60 rfl B 67 i0 (.pointer none) 8 Try.underlying60 HI.out HZ0.out HZ1.out HZ2.out rfl _ L.length _ rfl HR6.out ⟨w5.heap.size + 1, 0, none⟩ 1 (.pointer (some ⟨w5.heap.size, 0, none⟩)) rfl HCN.out rfl (by unfold maxLen; omega) (by omega) HBB.out ?_; intro v' w7 r1 r2 r3; obtain ⟨a7, cap7, rfl⟩ := row_form r1; have HRR1 := hide r1; have HRR2 := hide r2; have HRR3 := hide r3; obtain ⟨k6, l6⟩ := HQN.out w7 _ r1 r2; have h7 := r2.size; clear r1 r2 r3)
  obtain ⟨pr, kp⟩ := HPR.out w7 _ HRR1.out (by rw [HAA.out]; exact HRR2.out) (by rw [HAA.out]; exact HRR3.out)
  have hb5z : w.heap.size ≤ w5.heap.size := by omega
  have hbL : w5.heap.size ∉ L := fun h => by
    obtain ⟨p, hp'⟩ := HQ5.out.it _ h
    have := hp'.lt
    omega
  have hbH : w5.heap.size ∉ H := fun h => hbL ((HQ5.out.mem _).1 h).1
  have hEH : ∀ k ∈ H, upd E w5.heap.size (x.put (.slice av l.length cv)) k = E k := fun k hk => upd_ne E _ _ k (fun e => hbH (by rw [← e]; exact hk))
  have h8 : w5.heap.size < (w7.setCell ⟨qb, 6, none⟩ (.slice a7 (L.length + 1) cap7)).heap.size := pr.ib.lt
  have q := heap_push B qb w5.heap.size c x.seq (.slice a7 (L.length + 1) cap7) F H (upd E w5.heap.size (x.put (.slice av l.length cv))) 0 _ pr.q (pr.lx.congr hEH) (HQ5.out.ok.congr hEH) (by rw [upd_at]; exact pr.ib) hbH (by have := HBq.out; omega) (by have := H_le HQ5.out; omega)
  unfold ifc ptr at q
  have HPUSH := hide q
  have HPRE := hide pr
  have HKP := hide kp
  have H8 := hide h8
  clear q pr kp h8 hEH hbH hbL
  refine Calls.mono HPUSH.out ?_
  rintro e w9 ⟨rfl, F', H', HH⟩
  have HFS := hide (put_state HQ5.out HPRE.out H8.out HH.out HX0.out hsq (by have := HBq.out; omega) hL4 hll)
  go_wp2
  go_ret
  refine ⟨rfl, w5.heap.size, _, _, F', H', HFS.out, hb5z, ?_⟩
  have k1 : Kp (inQ qb A F L) w w5 := Kp.ofBelow (belOn HB0.out (Nat.le_of_lt hs0) HB5.out)
  have k2 : Kp (inQ qb A F L) w _ := k1.trans (HKP.out.mono (fun k hk => hk.elim .inl (fun h => .inr (.inr (.inl h)))))
  refine k2.transN HH.out.2.2.2.2.2 (fun k hk => ?_)
  rcases hk with h | h | h | h
  · exact .inl (.inl h)
  · exact .inr (by omega)
  · exact .inl (.inr (.inr (.inr h)))
  · exact .inl (.inr (.inl ((HQ5.out.mem k).1 h).1))
end Go.Proofs.Ytnbhifakfehefaa
