
/- Stage 17: Back, of an entry that is alive. -/
import Derived.Test.YtnbhifakfehefaaKBackM
namespace Go.Proofs.Ytnbhifakfehefaa
open Go.RowKit
set_option linter.unusedVariables false
set_option linter.unusedSimpArgs false
def It.back (x : It) (n : Int) : It := { x with cnt := n, hol := 0 }
theorem ib_back {w : World} {b : Nat} {x : It} {p : Int} (h : IB w b (x.at p)) (n : Int) : IB ((w.setCell ⟨b, 5, none⟩ (.int .i64 0)).setCell ⟨b, 4, none⟩ (.int .i64 n)) b ((x.back n).at p) := by
  unfold IB at *
  rw [blk_set _ b 4 _ (blk_set w b 5 _ h)]
  simp [It.cells, It.at, It.back]
set_option maxRecDepth 100000 in
set_option maxHeartbeats 4000000 in
theorem back_alive (B qb : Nat) (c : Cf) (hi : Int) (A F : Value) (L H : List Nat) (E : Nat → It) (D : Nat → List Nat) (k : Nat) (n : Int) (w : World) (hs : Qs w B qb c hi A F L H E D) (hk : k < L.length) (h1 : 1 ≤ (E (hv L k)).hol) (hc0 : 0 ≤ (E (hv L k)).cnt) (hc1 : (E (hv L k)).cnt ≤ 4294967295) (hn : n = min ((E (hv L k)).cnt + 1) 4294967295) (ht0 : 0 < c.t) (ht : n < c.t) (hH : H.length < 4096) :
    Calls Try.prog 16 #[.pointer (some ⟨qb, 0, none⟩), .int .i64 (E (hv L k)).seq, .int .i64 (E (hv L k)).hol, .bool true] w fun e w' => ∃ v, e = .returned (.tuple #[(((E (hv L k)).back n).put v).ent, .bool false, .int .i64 0]) ∧ ∃ F' H', Hid (Qs w' B qb c hi A F' L H' (upd E (hv L k) ((E (hv L k)).back n)) D ∧ Ob w.heap.size w' v (D (hv L k)) ∧ H'.length = H.length + 1 ∧ Kp (inQ qb A F L) w w') := by
  have hmx : Try.prog.follows .mixedOrders = true := by kernel_rfl
  obtain ⟨W0, hW0⟩ : ∃ W0, w.alloc (Obj.cells #[.int .i64 0, .int .i64 0, .int .i64 0, .bool false, .int .i64 0, .int .i64 0, .slice none 0 0] 37) = W0 := ⟨_, rfl⟩
  have HB0 : Hid (Below w.heap.size w W0) := by rw [← hW0]; exact bel1 (Below.refl _ _) (Nat.le_refl _) _
  have hh0 : W0.heap[w.heap.size]? = some (.cells #[.int .i64 0, .int .i64 0, .int .i64 0, .bool false, .int .i64 0, .int .i64 0, .slice none 0 0] 37 (0, 0)) := by rw [← hW0]; exact heap_new _ _
  have hs0 : W0.heap.size = w.heap.size + 1 := by rw [← hW0]; simp
  have hq0 := hs.below HB0.out
  obtain ⟨b, hb⟩ : ∃ b, hv L k = b := ⟨_, rfl⟩
  have hbL : b ∈ L := by rw [← hb, hv_eq L k hk]; exact List.getElem_mem _
  have HFD : Hid (Calls Try.prog 29 #[.pointer (some ⟨qb, 0, none⟩), .int .i64 (E (hv L k)).seq, .int .i64 (E (hv L k)).hol] W0 fun e w' => e = .returned (.int .i64 (k : Int)) ∧ w' = W0) := by
    refine Calls.mono (find_any B qb c hi A F L H E D _ _ W0 hq0) ?_
    rintro e w' ⟨i, rfl, hsp, rfl⟩
    obtain ⟨_, e2⟩ := split_find hsp hs.srt hk rfl rfl
    exact ⟨by rw [e2], rfl⟩
  obtain ⟨g, cap, hA, ck, hcap⟩ := row_cell hq0.ra k hk
  have c6 := hq0.q.cell.2.2.2.2.2.2.1
  rw [hA] at c6
  rw [hb] at HFD h1 hc0 hc1 hn ck ⊢
  have hbH : b ∉ H := fun e => by
    have := ((hs.mem b).1 e).2
    omega
  obtain ⟨p, hib⟩ := hq0.it b hbL
  have hib2 := ib_back hib n
  obtain ⟨W2, hW2⟩ : ∃ W2, (W0.setCell ⟨b, 5, none⟩ (.int .i64 0)).setCell ⟨b, 4, none⟩ (.int .i64 n) = W2 := ⟨_, rfl⟩
  have hk2 : ∀ j, j ≠ b → W2.heap[j]? = W0.heap[j]? := fun j hj => by rw [← hW2]; exact (blk_set_other _ ⟨b, 4, none⟩ _ j hj).trans (blk_set_other _ ⟨b, 5, none⟩ _ j hj)
  have hz2 : W2.heap.size = W0.heap.size := by rw [← hW2]; simp
  rw [hW2] at hib2
  obtain ⟨u1, u2, u3⟩ := back_pre (w2 := W2.drew) hq0 hbL hbH hib2 hk2
  have hBq : B ≤ w.heap.size := by have := hs.lo.1; have := hs.q.lt; omega
  have q := heap_push B qb b c hi A F H (upd E b ((E b).back n)) p W2.drew u1 u2 u3 (by rw [upd_at]; exact hib2) hbH (by show B ≤ W2.heap.size; omega) hH
  unfold ifc ptr at q
  have HPUSH := hide q
  have HST : Hid (∀ w3 F' H', HPushP B qb b c hi A F H (upd E b ((E b).back n)) W2.drew w3 F' H' → Qs w3 B qb c hi A F' L H' (upd E b ((E b).back n)) D ∧ H'.length = H.length + 1 ∧ Kp (fun j => j = qb ∨ j = b ∨ inF F H j) W2.drew w3) := fun w3 F' H' hh => ⟨back_state (w2 := W2.drew) (p := p) hq0 hbL hbH hib2 hk2 hz2 rfl rfl rfl hh, by have := hh.2.2.1.length_eq; simpa using this, hh.2.2.2.2.2⟩
  obtain ⟨y0, y1, y2, y3, y4, y5, y6, _⟩ := hib.cells
  have f4 := hib.free 4
  have f5 := hib.free 5
  have d3 : W2.cell? ⟨qb, 3, none⟩ = some (.int .i64 c.t) := by
    have e : QB W2 qb c hi A F := (hk2 qb (hq0.q.ne_item hib)).trans hq0.q
    exact e.cell.2.2.2.1
  have d4 : W2.cell? ⟨b, 4, none⟩ = some (.int .i64 n) := hib2.cells.2.2.2.2.1
  have hcq : c.t ≤ 9223372036854775807 ∨ True := .inr trivial
  have HMN : Hid (min ((E b).cnt + 1) 4294967295 = n) := hn.symm
  have HW0 := hide hW0
  have HW2 := hide hW2
  have HH0 := hide hh0
  have HS0 := hide hs0
  have HS := hide hs
  have HK2 := hide hk2
  have HZ2 := hide hz2
  have HBB := hide hb
  have hql := hs.q.lt
  have hgA := hA
  unfold ptr at ck
  unfold It.at at y0 y1 y2 y3 y4 y5 y6
  simp only at y0 y1 y2 y3 y4 y5 y6
  have hL4 := hs.len
  obtain ⟨nL, hnL⟩ : ∃ nL, L.length = nL := ⟨_, rfl⟩
  rw [hnL] at c6 hk hcap hL4
  have hw1 : IntKind.i64.wrap ((E b).cnt + 1) = (E b).cnt + 1 := by rw [IntKind.wrap_i64]; omega
  clear hW0 hW2 hh0 hs0 hk2 hz2 hb hs hq0 hib hib2 u1 u2 u3 q hA hgA hn hnL
  go_enter Try.func16, Try.ntmps16
  go_wp2_with fail
  rw [HW0.out]
  refine Calls.mono HFD.out ?_
  rintro e w1 ⟨rfl, rfl⟩
  go_wp2_with fail
  rw [HMN.out, HW2.out]
  go_region_held (fun W => W.cell? ⟨qb, 3, none⟩ = some (.int .i64 c.t) ∧ W.cell? ⟨b, 4, none⟩ = some (.int .i64 n)) (exact ⟨d3, d4⟩) (fail)
  clear d3 d4 y0 y1 y2 y3 y4 y5 y6 f4 f5
  have hnd : decide (c.t ≤ n) = false := by simp; omega
  go_wp2_with fail
  refine Calls.mono HPUSH.out ?_
  rintro e w3 ⟨rfl, F', H', HH⟩
  obtain ⟨hq3, hl3, hk3⟩ := HST.out w3 F' H' HH.out
  obtain ⟨p3, hib3⟩ := hq3.it b hbL
  rw [upd_at] at hib3
  obtain ⟨y0, y1, y2, y3, y4, y5, y6, _⟩ := hib3.cells
  unfold It.at It.back at y0 y1 y2 y3 y4 y5 y6
  simp only at y0 y1 y2 y3 y4 y5 y6
  have hob : Ob B w3 (E b).dat (D b) := by
    have := hq3.dat b hbL
    rw [upd_at] at this
    exact this
  have HOW := hide (own_any ((E b).back n) (D b) w3 hob.rb (by have := hq3.dl b hbL; omega))
  have HNZ3 : Hid (w3.heap[w.heap.size]? = some (.cells #[.int .i64 0, .int .i64 0, .int .i64 0, .bool false, .int .i64 0, .int .i64 0, .slice none 0 0] 37 (0, 0))) := by
    have hne : w.heap.size ≠ b := fun e => by
      obtain ⟨p', hp'⟩ := HS.out.it b hbL
      have := hp'.lt
      omega
    have e2 : W2.drew.heap[w.heap.size]? = some (.cells #[.int .i64 0, .int .i64 0, .int .i64 0, .bool false, .int .i64 0, .int .i64 0, .slice none 0 0] 37 (0, 0)) := (HK2.out _ hne).trans HH0.out
    refine (hk3.block (by show w.heap.size < W2.heap.size; have := HZ2.out; have := HS0.out; omega) (fun hx => ?_)).trans e2
    rcases hx with e | e | e | e
    · omega
    · exact hne e
    · obtain ⟨cur, hg⟩ := row_blk HS.out.lx.row e
      have := (Array.getElem?_eq_some_iff.1 hg).1
      omega
    · obtain ⟨p', hp'⟩ := HS.out.it _ ((HS.out.mem _).1 e).1
      have := hp'.lt
      omega
  have HQ3 := hide hq3
  have HL3 := hide hl3
  have HK3 := hide hk3
  unfold It.put It.ent at HOW
  clear hq3 hl3 hk3 hib3 hob
  go_wp2_with fail
  refine Calls.mono HOW.out ?_
  rintro e w4 ⟨v, rfl, HOB, hb4⟩
  obtain ⟨av, cv, hv'⟩ := row_form HOB.out.1
  subst hv'
  have hnz4 : w4.heap[w.heap.size]? = some (.cells #[.int .i64 0, .int .i64 0, .int .i64 0, .bool false, .int .i64 0, .int .i64 0, .slice none 0 0] 37 (0, 0)) := (hb4.block _ (Array.getElem?_eq_some_iff.1 HNZ3.out).1).trans HNZ3.out
  obtain ⟨z0, z1, z2, z3, z4, z5, z6⟩ := ent_cells hnz4
  have f0' : w4.frozen? ⟨w.heap.size, 0, none⟩ = false := by simp [World.frozen?, hnz4]
  have f1' : w4.frozen? ⟨w.heap.size, 1, none⟩ = false := by simp [World.frozen?, hnz4]
  have f2' : w4.frozen? ⟨w.heap.size, 2, none⟩ = false := by simp [World.frozen?, hnz4]
  have f3' : w4.frozen? ⟨w.heap.size, 3, none⟩ = false := by simp [World.frozen?, hnz4]
  have f4' : w4.frozen? ⟨w.heap.size, 4, none⟩ = false := by simp [World.frozen?, hnz4]
  have f5' : w4.frozen? ⟨w.heap.size, 5, none⟩ = false := by simp [World.frozen?, hnz4]
  have f6' : w4.frozen? ⟨w.heap.size, 6, none⟩ = false := by simp [World.frozen?, hnz4]
  have HQ4 := hide ((HQ3.out.below hb4).other hnz4 (fun k hk => set7_other w4 w.heap.size k hk (.int .i64 (E b).seq) (.int .i64 (E b).pri) (.int .i64 (E b).exp) (.bool (E b).dur) (.int .i64 n) (.int .i64 0) (.slice av (D b).length cv)))
  have HAT := hide (set7_at hnz4 (.int .i64 (E b).seq) (.int .i64 (E b).pri) (.int .i64 (E b).exp) (.bool (E b).dur) (.int .i64 n) (.int .i64 0) (.slice av (D b).length cv))
  have hw3z : w.heap.size ≤ w3.heap.size := by have := (Array.getElem?_eq_some_iff.1 HNZ3.out).1; omega
  have HOB5 : Hid (Ob w.heap.size (set7 w4 w.heap.size (.int .i64 (E b).seq) (.int .i64 (E b).pri) (.int .i64 (E b).exp) (.bool (E b).dur) (.int .i64 n) (.int .i64 0) (.slice av (D b).length cv)) (.slice av (D b).length cv) (D b)) :=
    (HOB.out.mono hw3z).keep (fun k e => set7_other _ _ k (fun e2 => (HOB.out.ne hnz4 (by decide)) (by rw [← e2]; exact e)) _ _ _ _ _ _ _)
  have HK5 : Hid (Kp (inQ qb A F L) w (set7 w4 w.heap.size (.int .i64 (E b).seq) (.int .i64 (E b).pri) (.int .i64 (E b).exp) (.bool (E b).dur) (.int .i64 n) (.int .i64 0) (.slice av (D b).length cv))) := by
    have k1 : Kp (inQ qb A F L) w w1 := Kp.ofBelow HB0.out
    have k2 : Kp (inQ qb A F L) w W2 := by
      rw [← HW2.out]
      exact (k1.setCell (.inr (.inl hbL)) _).setCell (.inr (.inl hbL)) _
    have k2' : Kp (inQ qb A F L) w W2.drew := k2
    have k3 : Kp (inQ qb A F L) w w3 := k2'.trans (HK3.out.mono (fun k hk => by
      rcases hk with e | e | e | e
      · exact .inl e
      · exact .inr (.inl (by rw [e]; exact hbL))
      · exact .inr (.inr (.inr e))
      · exact .inr (.inl ((HS.out.mem k).1 e).1)))
    have hb7 := set7_kp w4 w.heap.size w.heap.size (Nat.le_refl _) (.int .i64 (E b).seq) (.int .i64 (E b).pri) (.int .i64 (E b).exp) (.bool (E b).dur) (.int .i64 n) (.int .i64 0) (.slice av (D b).length cv)
    exact (k3.below hb4).transN (T := fun k => w.heap.size ≤ k) ⟨hb7.os, hb7.tape, hb7.output, hb7.size, fun k hk hn => hb7.block k (by omega)⟩ (fun k hk => .inr hk)
  clear hnz4 hb4 HOB
  unfold It.back
  simp only
  go_wp2
  unfold set7 at HQ4 HAT HOB5 HK5
  obtain ⟨W5, hW5⟩ : ∃ W5, (((((((w4.setCell ⟨w.heap.size, 0, none⟩ (.int .i64 (E b).seq)).setCell ⟨w.heap.size, 1, none⟩ (.int .i64 (E b).pri)).setCell ⟨w.heap.size, 2, none⟩ (.int .i64 (E b).exp)).setCell ⟨w.heap.size, 3, none⟩ (.bool (E b).dur)).setCell ⟨w.heap.size, 4, none⟩ (.int .i64 n)).setCell ⟨w.heap.size, 5, none⟩ (.int .i64 0)).setCell ⟨w.heap.size, 6, none⟩ (.slice av (D b).length cv)) = W5 := ⟨_, rfl⟩
  rw [hW5] at HQ4 HAT HOB5 HK5 ⊢
  obtain ⟨q0, q1, q2, q3, q4, q5, q6⟩ := ent_cells HAT.out
  clear hW5 z0 z1 z2 z3 z4 z5 z6 f0' f1' f2' f3' f4' f5' f6'
  refine bodyPost_ret (v := .tuple #[.agg #[.int .i64 (E b).seq, .int .i64 (E b).pri, .int .i64 (E b).exp, .bool (E b).dur, .int .i64 n, .int .i64 0, .slice av (D b).length cv], .bool false, .int .i64 0]) (by simp [results, Try.results16, go_sem, q0, q1, q2, q3, q4, q5, q6]) rfl ?_
  exact ⟨.slice av (D b).length cv, rfl, F', H', HQ4.out, HOB5.out, HL3.out, HK5.out⟩
end Go.Proofs.Ytnbhifakfehefaa
