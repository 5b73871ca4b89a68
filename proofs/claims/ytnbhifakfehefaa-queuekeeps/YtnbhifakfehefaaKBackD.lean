
/- Back of an entry that is dead now; what is refused. -/
import Derived.Test.YtnbhifakfehefaaKRemF
import Derived.Test.YtnbhifakfehefaaKBack
namespace Go.Proofs.Ytnbhifakfehefaa
open Go.RowKit
set_option linter.unusedVariables false
set_option linter.unusedSimpArgs false
theorem Qy.mark {w w2 : World} {B qb b : Nat} {c : Cf} {hi : Int} {A F : Value} {L H : List Nat} {E : Nat → It} {D : Nat → List Nat} {x : It} {p : Int} (hs : Qs w B qb c hi A F L H E D) (hbL : b ∈ L) (hbH : b ∉ H) (hib : IB w2 b (x.at p)) (hk : ∀ k, k ≠ b → w2.heap[k]? = w.heap[k]?) (hsz : w2.heap.size = w.heap.size) (hx1 : x.seq = (E b).seq) (hx2 : x.dat = (E b).dat) : Qy w2 B qb c hi A F L H (upd E b x) D (fun k => k = b) := by
  obtain ⟨u1, u2, u3⟩ := back_pre hs hbL hbH hib hk
  obtain ⟨p0, h0⟩ := hs.it b hbL
  have hE : ∀ k, k ≠ b → upd E b x k = E k := fun k h => upd_ne E b x k h
  have hsq : ∀ k, (upd E b x k).seq = (E k).seq := fun k => by
    by_cases e : k = b
    · subst e; rw [upd_at, hx1]
    · rw [hE k e]
  have hdt : ∀ k, (upd E b x k).dat = (E k).dat := fun k => by
    by_cases e : k = b
    · subst e; rw [upd_at, hx2]
    · rw [hE k e]
  refine ⟨u1, rows_keep hs.ra (fun k e => hk k (fun e2 => ?_)), u2, hs.ne, fun k hkL => ?_, u3, fun k => ?_, hs.nd, hs.srt.imp (fun {a d} hx => by rw [hsq, hsq]; exact hx), fun k hkL => by rw [hsq]; exact hs.top k hkL, hs.len, hs.lo, fun k hkL => ?_, hs.dl⟩
  · subst e2
    exact (h0.ne_row hs.ra e) rfl
  · by_cases e : k = b
    · subst e; rw [upd_at]; exact ⟨p, hib⟩
    · rw [hE k e]
      obtain ⟨p', hp'⟩ := hs.it k hkL
      exact ⟨p', (hk k e).trans hp'⟩
  · constructor
    · intro h
      have e : k ≠ b := fun e => hbH (by rw [← e]; exact h)
      rw [hE k e]
      exact ⟨((hs.mem k).1 h).1, ((hs.mem k).1 h).2, e⟩
    · rintro ⟨h1, h2, h3⟩
      rw [hE k h3] at h2
      exact (hs.mem k).2 ⟨h1, h2⟩
  · rw [hdt]
    have ho := hs.dat k hkL
    exact ho.keep (fun j e => hk j (fun e2 => (ho.ne h0 (by decide)) (by rw [← e2]; exact e)))
set_option maxRecDepth 100000 in
set_option maxHeartbeats 4000000 in
theorem back_dead (B qb : Nat) (c : Cf) (hi : Int) (A F : Value) (L H : List Nat) (E : Nat → It) (D : Nat → List Nat) (k : Nat) (n : Int) (w : World) (hs : Qs w B qb c hi A F L H E D) (hk : k < L.length) (h1 : 1 ≤ (E (hv L k)).hol) (hc0 : 0 ≤ (E (hv L k)).cnt) (hc1 : (E (hv L k)).cnt ≤ 4294967295) (hn : n = min ((E (hv L k)).cnt + 1) 4294967295) (ht0 : 0 < c.t) (ht : c.t ≤ n) :
    Calls Try.prog 16 #[.pointer (some ⟨qb, 0, none⟩), .int .i64 (E (hv L k)).seq, .int .i64 (E (hv L k)).hol, .bool true] w fun e w' => ∃ v, e = .returned (.tuple #[(((E (hv L k)).back n).put v).ent, .bool true, .int .i64 0]) ∧ ∃ A', Hid (Qs w' B qb c hi A' F (L.eraseIdx k) H (upd E (hv L k) ((E (hv L k)).back n)) D ∧ Ob w.heap.size w' v (D (hv L k)) ∧ Kp (inQ qb A F L) w w') := by
  have hmx : Try.prog.follows .mixedOrders = true := by kernel_rfl
  obtain ⟨W0, hW0⟩ : ∃ W0, w.alloc (Obj.cells #[.int .i64 0, .int .i64 0, .int .i64 0, .bool false, .int .i64 0, .int .i64 0, .slice none 0 0] 37) = W0 := ⟨_, rfl⟩
  have HB0 : Hid (Below w.heap.size w W0) := by rw [← hW0]; exact bel1 (Below.refl _ _) (Nat.le_refl _) _
  have hh0 : W0.heap[w.heap.size]? = some (.cells #[.int .i64 0, .int .i64 0, .int .i64 0, .bool false, .int .i64 0, .int .i64 0, .slice none 0 0] 37 (0, 0)) := by rw [← hW0]; exact heap_new _ _
  have hs0 : W0.heap.size = w.heap.size + 1 := by rw [← hW0]; simp
  have hq0 := hs.below HB0.out
  obtain ⟨b, hb⟩ : ∃ b, hv L k = b := ⟨_, rfl⟩
  have hbL : b ∈ L := by rw [← hb, hv_eq L k hk]; exact List.getElem_mem _
  have HFD : Hid (Calls Try.prog 29 #[.pointer (some ⟨qb, 0, none⟩), .int .i64 (E (hv L k)).seq, .int .i64 (E (hv L k)).hol] W0 fun e w' => e = .returned (.int .i64 (k : Int)) ∧ w' = W0) := by
    refine Calls.mono (find_any B qb c hi A F L H E D _ _ W0 hq0) ?_
    rintro e w' ⟨i, rfl, hsp, rfl⟩
    obtain ⟨_, e2⟩ := split_find hsp hs.srt hk rfl rfl
    exact ⟨by rw [e2], rfl⟩
  obtain ⟨g, cap, hA, ck, hcap⟩ := row_cell hq0.ra k hk
  have c6 := hq0.q.cell.2.2.2.2.2.2.1
  rw [hA] at c6
  rw [hb] at HFD h1 hc0 hc1 hn ck ⊢
  have hbH : b ∉ H := fun e => by
    have := ((hs.mem b).1 e).2
    omega
  obtain ⟨p, hib⟩ := hq0.it b hbL
  have hib2 := ib_back hib n
  obtain ⟨W2, hW2⟩ : ∃ W2, (W0.setCell ⟨b, 5, none⟩ (.int .i64 0)).setCell ⟨b, 4, none⟩ (.int .i64 n) = W2 := ⟨_, rfl⟩
  have hk2 : ∀ j, j ≠ b → W2.heap[j]? = W0.heap[j]? := fun j hj => by rw [← hW2]; exact (blk_set_other _ ⟨b, 4, none⟩ _ j hj).trans (blk_set_other _ ⟨b, 5, none⟩ _ j hj)
  have hz2 : W2.heap.size = W0.heap.size := by rw [← hW2]; simp
  rw [hW2] at hib2
  have hmk := Qy.mark (w2 := W2.drew) hq0 hbL hbH hib2 hk2 hz2 rfl rfl
  have HDR : Hid (Calls Try.prog 31 #[.pointer (some ⟨qb, 0, none⟩), .int .i64 (k : Int)] W2.drew fun e w3 => e = .returned (.tuple #[]) ∧ ∃ A', Hid (Qs w3 B qb c hi A' F (L.eraseIdx k) H (upd E b ((E b).back n)) D ∧ (∃ p, IB w3 b (((E b).back n).at p)) ∧ Ob B w3 (E b).dat (D b) ∧ Kp (inQ qb A F L) W2.drew w3 ∧ w3.heap[w.heap.size]? = W2.heap[w.heap.size]?)) := by
    refine Calls.mono (drop_raw B qb c hi A F L k W2.drew hmk.q hmk.ra hmk.len hk) ?_
    rintro e w' ⟨rfl, A', HA⟩
    obtain ⟨r1, r2, r3, r4⟩ := HA.out
    have hmem := erase_mem hs.nd hk
    have hqs := Qy.fewer (L' := L.eraseIdx k) hmk (List.eraseIdx_sublist ..) (fun x hx => (hmem x).2 ⟨((hmk.mem x).1 hx).1, fun e => ((hmk.mem x).1 hx).2.2 (by rw [e, hb])⟩) (fun x hx _ e => ((hmem x).1 hx).2 (by rw [e, hb])) r1 r2 r3 r4
    have hd := hmk.dat b hbL
    rw [upd_at] at hd
    obtain ⟨p, hp⟩ := hmk.it b hbL
    rw [upd_at] at hp
    refine ⟨rfl, A', hqs, ⟨p, (r4.block hp.lt (fun e => ?_)).trans hp⟩, hd.keep (fun j e => r4.block (hd.lt j e).2 (fun h => ?_)), r4.mono (fun j h => h.elim .inl (fun e => .inr (.inr (.inl e)))), r4.block (by show _ < W2.heap.size; omega) (fun e => ?_)⟩
    · rcases e with e | e
      · exact (hmk.q.ne_item hp) e.symm
      · exact (hp.ne_row hmk.ra e) rfl
    · rcases h with e2 | e2
      · exact (hd.ne (b := qb) hmk.q (by decide)) (by rw [← e2]; exact e)
      · obtain ⟨cur, hg⟩ := row_blk hmk.ra e2
        exact (hd.ne hg (by decide)) e
    · rcases e with e | e
      · have := hs.q.lt
        omega
      · obtain ⟨cur, hg⟩ := row_blk hs.ra e
        have := (Array.getElem?_eq_some_iff.1 hg).1
        omega
  have HDL := hide (hs.dl b hbL)
  obtain ⟨y0, y1, y2, y3, y4, y5, y6, _⟩ := hib.cells
  have f4 := hib.free 4
  have f5 := hib.free 5
  have d3 : W2.cell? ⟨qb, 3, none⟩ = some (.int .i64 c.t) := by
    have e : QB W2 qb c hi A F := (hk2 qb (hq0.q.ne_item hib)).trans hq0.q
    exact e.cell.2.2.2.1
  have d4 : W2.cell? ⟨b, 4, none⟩ = some (.int .i64 n) := hib2.cells.2.2.2.2.1
  have hcq : c.t ≤ 9223372036854775807 ∨ True := .inr trivial
  have HMN : Hid (min ((E b).cnt + 1) 4294967295 = n) := hn.symm
  have HW0 := hide hW0
  have HW2 := hide hW2
  have HH0 := hide hh0
  have HS0 := hide hs0
  have HS := hide hs
  have HK2 := hide hk2
  have HZ2 := hide hz2
  have HBB := hide hb
  have hql := hs.q.lt
  have hgA := hA
  unfold ptr at ck
  unfold It.at at y0 y1 y2 y3 y4 y5 y6
  simp only at y0 y1 y2 y3 y4 y5 y6
  have hL4 := hs.len
  obtain ⟨nL, hnL⟩ : ∃ nL, L.length = nL := ⟨_, rfl⟩
  rw [hnL] at c6 hk hcap hL4
  have hw1 : IntKind.i64.wrap ((E b).cnt + 1) = (E b).cnt + 1 := by rw [IntKind.wrap_i64]; omega
  clear hW0 hW2 hh0 hs0 hk2 hz2 hb hs hq0 hib hib2 hmk hA hgA hn hnL
  go_enter Try.func16, Try.ntmps16
  go_wp2_with fail
  rw [HW0.out]
  refine Calls.mono HFD.out ?_
  rintro e w1 ⟨rfl, rfl⟩
  go_wp2_with fail
  rw [HMN.out, HW2.out]
  go_region_held (fun W => W.cell? ⟨qb, 3, none⟩ = some (.int .i64 c.t) ∧ W.cell? ⟨b, 4, none⟩ = some (.int .i64 n)) (exact ⟨d3, d4⟩) (fail)
  clear d3 d4 y0 y1 y2 y3 y4 y5 y6 f4 f5
  have hnd : decide (c.t ≤ n) = true := by simp; omega
  go_wp2_with fail
  refine Calls.mono HDR.out ?_
  rintro e w3 ⟨rfl, A', HH⟩
  obtain ⟨hq3, ⟨p3, hib3⟩, hob, hk3, hn3⟩ := HH.out
  obtain ⟨y0, y1, y2, y3, y4, y5, y6, _⟩ := hib3.cells
  unfold It.at It.back at y0 y1 y2 y3 y4 y5 y6
  simp only at y0 y1 y2 y3 y4 y5 y6
  have HOW := hide (own_any ((E b).back n) (D b) w3 hob.rb (by have := HDL.out; omega))
  have HNZ3 : Hid (w3.heap[w.heap.size]? = some (.cells #[.int .i64 0, .int .i64 0, .int .i64 0, .bool false, .int .i64 0, .int .i64 0, .slice none 0 0] 37 (0, 0))) := by
    have hne : w.heap.size ≠ b := fun e => by
      obtain ⟨p', hp'⟩ := HS.out.it b hbL
      have := hp'.lt
      omega
    exact hn3.trans ((HK2.out _ hne).trans HH0.out)
  have HQ3 := hide hq3
  have HK3 := hide hk3
  unfold It.put It.ent at HOW
  clear hq3 hk3 hib3 hob hn3
  go_wp2_with fail
  refine Calls.mono HOW.out ?_
  rintro e w4 ⟨v, rfl, HOB, hb4⟩
  obtain ⟨av, cv, hv'⟩ := row_form HOB.out.1
  subst hv'
  have hnz4 : w4.heap[w.heap.size]? = some (.cells #[.int .i64 0, .int .i64 0, .int .i64 0, .bool false, .int .i64 0, .int .i64 0, .slice none 0 0] 37 (0, 0)) := (hb4.block _ (Array.getElem?_eq_some_iff.1 HNZ3.out).1).trans HNZ3.out
  obtain ⟨z0, z1, z2, z3, z4, z5, z6⟩ := ent_cells hnz4
  have f0' : w4.frozen? ⟨w.heap.size, 0, none⟩ = false := by simp [World.frozen?, hnz4]
  have f1' : w4.frozen? ⟨w.heap.size, 1, none⟩ = false := by simp [World.frozen?, hnz4]
  have f2' : w4.frozen? ⟨w.heap.size, 2, none⟩ = false := by simp [World.frozen?, hnz4]
  have f3' : w4.frozen? ⟨w.heap.size, 3, none⟩ = false := by simp [World.frozen?, hnz4]
  have f4' : w4.frozen? ⟨w.heap.size, 4, none⟩ = false := by simp [World.frozen?, hnz4]
  have f5' : w4.frozen? ⟨w.heap.size, 5, none⟩ = false := by simp [World.frozen?, hnz4]
  have f6' : w4.frozen? ⟨w.heap.size, 6, none⟩ = false := by simp [World.frozen?, hnz4]
  have HQ4 := hide ((HQ3.out.below hb4).other hnz4 (fun k hk => set7_other w4 w.heap.size k hk (.int .i64 (E b).seq) (.int .i64 (E b).pri) (.int .i64 (E b).exp) (.bool (E b).dur) (.int .i64 n) (.int .i64 0) (.slice av (D b).length cv)))
  have HAT := hide (set7_at hnz4 (.int .i64 (E b).seq) (.int .i64 (E b).pri) (.int .i64 (E b).exp) (.bool (E b).dur) (.int .i64 n) (.int .i64 0) (.slice av (D b).length cv))
  have hw3z : w.heap.size ≤ w3.heap.size := by have := (Array.getElem?_eq_some_iff.1 HNZ3.out).1; omega
  have HOB5 : Hid (Ob w.heap.size (set7 w4 w.heap.size (.int .i64 (E b).seq) (.int .i64 (E b).pri) (.int .i64 (E b).exp) (.bool (E b).dur) (.int .i64 n) (.int .i64 0) (.slice av (D b).length cv)) (.slice av (D b).length cv) (D b)) :=
    (HOB.out.mono hw3z).keep (fun k e => set7_other _ _ k (fun e2 => (HOB.out.ne hnz4 (by decide)) (by rw [← e2]; exact e)) _ _ _ _ _ _ _)
  have HK5 : Hid (Kp (inQ qb A F L) w (set7 w4 w.heap.size (.int .i64 (E b).seq) (.int .i64 (E b).pri) (.int .i64 (E b).exp) (.bool (E b).dur) (.int .i64 n) (.int .i64 0) (.slice av (D b).length cv))) := by
    have k1 : Kp (inQ qb A F L) w w1 := Kp.ofBelow HB0.out
    have k2 : Kp (inQ qb A F L) w W2 := by
      rw [← HW2.out]
      exact (k1.setCell (.inr (.inl hbL)) _).setCell (.inr (.inl hbL)) _
    have k2' : Kp (inQ qb A F L) w W2.drew := k2
    have k3 : Kp (inQ qb A F L) w w3 := k2'.trans HK3.out
    have hb7 := set7_kp w4 w.heap.size w.heap.size (Nat.le_refl _) (.int .i64 (E b).seq) (.int .i64 (E b).pri) (.int .i64 (E b).exp) (.bool (E b).dur) (.int .i64 n) (.int .i64 0) (.slice av (D b).length cv)
    exact (k3.below hb4).transN (T := fun k => w.heap.size ≤ k) ⟨hb7.os, hb7.tape, hb7.output, hb7.size, fun k hk hn => hb7.block k (by omega)⟩ (fun k hk => .inr hk)
  clear hnz4 hb4 HOB
  unfold It.back
  simp only
  go_wp2
  unfold set7 at HQ4 HAT HOB5 HK5
  obtain ⟨W5, hW5⟩ : ∃ W5, (((((((w4.setCell ⟨w.heap.size, 0, none⟩ (.int .i64 (E b).seq)).setCell ⟨w.heap.size, 1, none⟩ (.int .i64 (E b).pri)).setCell ⟨w.heap.size, 2, none⟩ (.int .i64 (E b).exp)).setCell ⟨w.heap.size, 3, none⟩ (.bool (E b).dur)).setCell ⟨w.heap.size, 4, none⟩ (.int .i64 n)).setCell ⟨w.heap.size, 5, none⟩ (.int .i64 0)).setCell ⟨w.heap.size, 6, none⟩ (.slice av (D b).length cv)) = W5 := ⟨_, rfl⟩
  rw [hW5] at HQ4 HAT HOB5 HK5 ⊢
  obtain ⟨q0, q1, q2, q3, q4, q5, q6⟩ := ent_cells HAT.out
  clear hW5 z0 z1 z2 z3 z4 z5 z6 f0' f1' f2' f3' f4' f5' f6'
  refine bodyPost_ret (v := .tuple #[.agg #[.int .i64 (E b).seq, .int .i64 (E b).pri, .int .i64 (E b).exp, .bool (E b).dur, .int .i64 n, .int .i64 0, .slice av (D b).length cv], .bool true, .int .i64 0]) (by simp [results, Try.results16, go_sem, q0, q1, q2, q3, q4, q5, q6]) rfl ?_
  exact ⟨.slice av (D b).length cv, rfl, A', HQ4.out, HOB5.out, HK5.out⟩
theorem findZ_no {L : List Nat} {E : Nat → It} {t hol : Int} {i : Nat} (h : ∀ k, k < L.length → ¬ ((E (hv L k)).seq = t ∧ (E (hv L k)).hol = hol)) : findZ L E t hol i = -1 := if_neg (fun e => h i e.1 e.2)
set_option maxRecDepth 100000 in
set_option maxHeartbeats 4000000 in
theorem remove_no (B qb : Nat) (c : Cf) (hi : Int) (A F : Value) (L H : List Nat) (E : Nat → It) (D : Nat → List Nat) (t hol : Int) (w : World) (hs : Qs w B qb c hi A F L H E D) (h1 : ∀ k, k < L.length → ¬ ((E (hv L k)).seq = t ∧ (E (hv L k)).hol = hol)) :
    Calls Try.prog 15 #[.pointer (some ⟨qb, 0, none⟩), .int .i64 t, .int .i64 hol] w fun e w' => e = .returned (.tuple #[.agg #[.int .i64 0, .int .i64 0, .int .i64 0, .bool false, .int .i64 0, .int .i64 0, .slice none 0 0], .int .i64 171]) ∧ Below w.heap.size w w' := by
  obtain ⟨W0, hW0⟩ : ∃ W0, w.alloc (Obj.cells #[.int .i64 0, .int .i64 0, .int .i64 0, .bool false, .int .i64 0, .int .i64 0, .slice none 0 0] 37) = W0 := ⟨_, rfl⟩
  have HB0 : Hid (Below w.heap.size w W0) := by rw [← hW0]; exact bel1 (Below.refl _ _) (Nat.le_refl _) _
  have hh0 : W0.heap[w.heap.size]? = some (.cells #[.int .i64 0, .int .i64 0, .int .i64 0, .bool false, .int .i64 0, .int .i64 0, .slice none 0 0] 37 (0, 0)) := by rw [← hW0]; exact heap_new _ _
  have hs0 : w.heap.size < W0.heap.size := by rw [← hW0]; simp
  have HFD : Hid (Calls Try.prog 29 #[.pointer (some ⟨qb, 0, none⟩), .int .i64 t, .int .i64 hol] W0 fun e w' => e = .returned (.int .i64 (-1)) ∧ w' = W0) := by
    refine Calls.mono (find_any B qb c hi A F L H E D _ _ W0 (hs.below HB0.out)) ?_
    rintro e w' ⟨i, rfl, hsp, rfl⟩
    exact ⟨by rw [findZ_no h1], rfl⟩
  obtain ⟨z0, z1, z2, z3, z4, z5, z6⟩ := ent_cells hh0
  have f0' : W0.frozen? ⟨w.heap.size, 0, none⟩ = false := by simp [World.frozen?, hh0]
  have f1' : W0.frozen? ⟨w.heap.size, 1, none⟩ = false := by simp [World.frozen?, hh0]
  have f2' : W0.frozen? ⟨w.heap.size, 2, none⟩ = false := by simp [World.frozen?, hh0]
  have f3' : W0.frozen? ⟨w.heap.size, 3, none⟩ = false := by simp [World.frozen?, hh0]
  have f4' : W0.frozen? ⟨w.heap.size, 4, none⟩ = false := by simp [World.frozen?, hh0]
  have f5' : W0.frozen? ⟨w.heap.size, 5, none⟩ = false := by simp [World.frozen?, hh0]
  have f6' : W0.frozen? ⟨w.heap.size, 6, none⟩ = false := by simp [World.frozen?, hh0]
  have HW0 := hide hW0
  have HH0 := hide hh0
  clear hW0 hh0 hs h1
  go_enter Try.func15, Try.ntmps15
  go_wp2_with fail
  rw [HW0.out]
  refine Calls.mono HFD.out ?_
  rintro e w1 ⟨rfl, rfl⟩
  go_wp2
  have HAT := hide (set7_at HH0.out (.int .i64 0) (.int .i64 0) (.int .i64 0) (.bool false) (.int .i64 0) (.int .i64 0) (.slice none 0 0))
  have HBZ : Hid (Below w.heap.size w (set7 w1 w.heap.size (.int .i64 0) (.int .i64 0) (.int .i64 0) (.bool false) (.int .i64 0) (.int .i64 0) (.slice none 0 0))) := by
    have hb7 := set7_kp w1 w.heap.size w.heap.size (Nat.le_refl _) (.int .i64 0) (.int .i64 0) (.int .i64 0) (.bool false) (.int .i64 0) (.int .i64 0) (.slice none 0 0)
    exact HB0.out.trans hb7
  unfold set7 at HAT HBZ
  obtain ⟨q0, q1, q2, q3, q4, q5, q6⟩ := ent_cells HAT.out
  refine bodyPost_ret (v := .tuple #[.agg #[.int .i64 0, .int .i64 0, .int .i64 0, .bool false, .int .i64 0, .int .i64 0, .slice none 0 0], .int .i64 171]) (by simp [results, Try.results15, go_sem, q0, q1, q2, q3, q4, q5, q6]) rfl ?_
  exact ⟨rfl, HBZ.out⟩
set_option maxRecDepth 100000 in
set_option maxHeartbeats 4000000 in
theorem back_no (B qb : Nat) (c : Cf) (hi : Int) (A F : Value) (L H : List Nat) (E : Nat → It) (D : Nat → List Nat) (t hol : Int) (f : Bool) (w : World) (hs : Qs w B qb c hi A F L H E D) (h1 : hol < 1 ∨ ∀ k, k < L.length → ¬ ((E (hv L k)).seq = t ∧ (E (hv L k)).hol = hol)) :
    Calls Try.prog 16 #[.pointer (some ⟨qb, 0, none⟩), .int .i64 t, .int .i64 hol, .bool f] w fun e w' => e = .returned (.tuple #[.agg #[.int .i64 0, .int .i64 0, .int .i64 0, .bool false, .int .i64 0, .int .i64 0, .slice none 0 0], .bool false, .int .i64 171]) ∧ Below w.heap.size w w' := by
  obtain ⟨W0, hW0⟩ : ∃ W0, w.alloc (Obj.cells #[.int .i64 0, .int .i64 0, .int .i64 0, .bool false, .int .i64 0, .int .i64 0, .slice none 0 0] 37) = W0 := ⟨_, rfl⟩
  have HB0 : Hid (Below w.heap.size w W0) := by rw [← hW0]; exact bel1 (Below.refl _ _) (Nat.le_refl _) _
  have hh0 : W0.heap[w.heap.size]? = some (.cells #[.int .i64 0, .int .i64 0, .int .i64 0, .bool false, .int .i64 0, .int .i64 0, .slice none 0 0] 37 (0, 0)) := by rw [← hW0]; exact heap_new _ _
  have hs0 : w.heap.size < W0.heap.size := by rw [← hW0]; simp
  have HFD : Hid (Calls Try.prog 29 #[.pointer (some ⟨qb, 0, none⟩), .int .i64 t, .int .i64 hol] W0 fun e w' => ∃ z : Int, e = .returned (.int .i64 z) ∧ (¬ hol < 1 → z = -1) ∧ w' = W0) := by
    refine Calls.mono (find_any B qb c hi A F L H E D _ _ W0 (hs.below HB0.out)) ?_
    rintro e w' ⟨i, rfl, hsp, rfl⟩
    exact ⟨_, rfl, fun h => findZ_no (h1.resolve_left h), rfl⟩
  obtain ⟨z0, z1, z2, z3, z4, z5, z6⟩ := ent_cells hh0
  have f0' : W0.frozen? ⟨w.heap.size, 0, none⟩ = false := by simp [World.frozen?, hh0]
  have f1' : W0.frozen? ⟨w.heap.size, 1, none⟩ = false := by simp [World.frozen?, hh0]
  have f2' : W0.frozen? ⟨w.heap.size, 2, none⟩ = false := by simp [World.frozen?, hh0]
  have f3' : W0.frozen? ⟨w.heap.size, 3, none⟩ = false := by simp [World.frozen?, hh0]
  have f4' : W0.frozen? ⟨w.heap.size, 4, none⟩ = false := by simp [World.frozen?, hh0]
  have f5' : W0.frozen? ⟨w.heap.size, 5, none⟩ = false := by simp [World.frozen?, hh0]
  have f6' : W0.frozen? ⟨w.heap.size, 6, none⟩ = false := by simp [World.frozen?, hh0]
  have HW0 := hide hW0
  have HH0 := hide hh0
  clear hW0 hh0 hs h1
  go_enter Try.func16, Try.ntmps16
  go_wp2_with fail
  rw [HW0.out]
  refine Calls.mono HFD.out ?_
  rintro e w1 ⟨z, rfl, hz, rfl⟩
  by_cases hh : hol < 1
  · clear hz
    go_wp2
    have HAT := hide (set7_at HH0.out (.int .i64 0) (.int .i64 0) (.int .i64 0) (.bool false) (.int .i64 0) (.int .i64 0) (.slice none 0 0))
    have HBZ : Hid (Below w.heap.size w (set7 w1 w.heap.size (.int .i64 0) (.int .i64 0) (.int .i64 0) (.bool false) (.int .i64 0) (.int .i64 0) (.slice none 0 0))) := by
      have hb7 := set7_kp w1 w.heap.size w.heap.size (Nat.le_refl _) (.int .i64 0) (.int .i64 0) (.int .i64 0) (.bool false) (.int .i64 0) (.int .i64 0) (.slice none 0 0)
      exact HB0.out.trans hb7
    unfold set7 at HAT HBZ
    obtain ⟨q0, q1, q2, q3, q4, q5, q6⟩ := ent_cells HAT.out
    refine bodyPost_ret (v := .tuple #[.agg #[.int .i64 0, .int .i64 0, .int .i64 0, .bool false, .int .i64 0, .int .i64 0, .slice none 0 0], .bool false, .int .i64 171]) (by simp [results, Try.results16, go_sem, q0, q1, q2, q3, q4, q5, q6]) rfl ?_
    exact ⟨rfl, HBZ.out⟩
  · obtain rfl := hz (by omega)
    go_wp2
    have HAT := hide (set7_at HH0.out (.int .i64 0) (.int .i64 0) (.int .i64 0) (.bool false) (.int .i64 0) (.int .i64 0) (.slice none 0 0))
    have HBZ : Hid (Below w.heap.size w (set7 w1 w.heap.size (.int .i64 0) (.int .i64 0) (.int .i64 0) (.bool false) (.int .i64 0) (.int .i64 0) (.slice none 0 0))) := by
      have hb7 := set7_kp w1 w.heap.size w.heap.size (Nat.le_refl _) (.int .i64 0) (.int .i64 0) (.int .i64 0) (.bool false) (.int .i64 0) (.int .i64 0) (.slice none 0 0)
      exact HB0.out.trans hb7
    unfold set7 at HAT HBZ
    obtain ⟨q0, q1, q2, q3, q4, q5, q6⟩ := ent_cells HAT.out
    refine bodyPost_ret (v := .tuple #[.agg #[.int .i64 0, .int .i64 0, .int .i64 0, .bool false, .int .i64 0, .int .i64 0, .slice none 0 0], .bool false, .int .i64 171]) (by simp [results, Try.results16, go_sem, q0, q1, q2, q3, q4, q5, q6]) rfl ?_
    exact ⟨rfl, HBZ.out⟩
set_option maxRecDepth 100000 in
set_option maxHeartbeats 4000000 in
theorem take_low (qb : Nat) (h : Int) (w : World) (h1 : h < 1) :
    Calls Try.prog 13 #[.pointer (some ⟨qb, 0, none⟩), .int .i64 h, .nilFunc] w fun e w' => e = .returned (.tuple #[.agg #[.int .i64 0, .int .i64 0, .int .i64 0, .bool false, .int .i64 0, .int .i64 0, .slice none 0 0], .bool false]) ∧ Below w.heap.size w w' := by
  obtain ⟨W0, hW0⟩ : ∃ W0, w.alloc (Obj.cells #[.int .i64 0, .int .i64 0, .int .i64 0, .bool false, .int .i64 0, .int .i64 0, .slice none 0 0] 37) = W0 := ⟨_, rfl⟩
  have HB0 : Hid (Below w.heap.size w W0) := by rw [← hW0]; exact bel1 (Below.refl _ _) (Nat.le_refl _) _
  have hh0 : W0.heap[w.heap.size]? = some (.cells #[.int .i64 0, .int .i64 0, .int .i64 0, .bool false, .int .i64 0, .int .i64 0, .slice none 0 0] 37 (0, 0)) := by rw [← hW0]; exact heap_new _ _
  have hs0 : w.heap.size < W0.heap.size := by rw [← hW0]; simp
  obtain ⟨z0, z1, z2, z3, z4, z5, z6⟩ := ent_cells hh0
  have f0' : W0.frozen? ⟨w.heap.size, 0, none⟩ = false := by simp [World.frozen?, hh0]
  have f1' : W0.frozen? ⟨w.heap.size, 1, none⟩ = false := by simp [World.frozen?, hh0]
  have f2' : W0.frozen? ⟨w.heap.size, 2, none⟩ = false := by simp [World.frozen?, hh0]
  have f3' : W0.frozen? ⟨w.heap.size, 3, none⟩ = false := by simp [World.frozen?, hh0]
  have f4' : W0.frozen? ⟨w.heap.size, 4, none⟩ = false := by simp [World.frozen?, hh0]
  have f5' : W0.frozen? ⟨w.heap.size, 5, none⟩ = false := by simp [World.frozen?, hh0]
  have f6' : W0.frozen? ⟨w.heap.size, 6, none⟩ = false := by simp [World.frozen?, hh0]
  have HW0 := hide hW0
  have HH0 := hide hh0
  clear hW0 hh0
  go_enter Try.func13, Try.ntmps13
  go_wp2_with fail
  rw [HW0.out]
  refine bodyPost_ret (v := .tuple #[.agg #[.int .i64 0, .int .i64 0, .int .i64 0, .bool false, .int .i64 0, .int .i64 0, .slice none 0 0], .bool false]) (by simp [results, Try.results13, go_sem, z0, z1, z2, z3, z4, z5, z6]) rfl ?_
  exact ⟨rfl, HB0.out⟩
end Go.Proofs.Ytnbhifakfehefaa
