
/- Stage 17: Remove of a held entry; Take of a queue with no free entry. -/
import Derived.Test.YtnbhifakfehefaaKDel
namespace Go.Proofs.Ytnbhifakfehefaa
open Go.RowKit
set_option linter.unusedVariables false
set_option linter.unusedSimpArgs false
theorem erase_mem {L : List Nat} {k : Nat} (hn : L.Nodup) (hk : k < L.length) (x : Nat) : x ∈ L.eraseIdx k ↔ x ∈ L ∧ x ≠ hv L k := by
  rw [List.mem_eraseIdx_iff_getElem?]
  constructor
  · rintro ⟨i, hi, he⟩
    refine ⟨List.mem_of_getElem? he, fun e => hi ?_⟩
    subst e
    obtain ⟨h1, h2⟩ := List.getElem?_eq_some_iff.1 he
    rw [hv_eq L k hk] at h2
    exact (List.getElem_inj hn).1 h2
  · rintro ⟨h1, h2⟩
    obtain ⟨i, hi, he⟩ := List.mem_iff_getElem.1 h1
    refine ⟨i, fun e => h2 ?_, by rw [List.getElem?_eq_getElem hi, he]⟩
    subst e
    rw [hv_eq L i hi, he]
theorem drop_state {w w' : World} {B qb : Nat} {c : Cf} {hi : Int} {A A' F : Value} {L H : List Nat} {E : Nat → It} {D : Nat → List Nat} {k : Nat} (hs : Qs w B qb c hi A F L H E D) (hk : k < L.length) (hb : hv L k ∉ H) (hq : QB w' qb c hi A' F) (hr : w'.ownsRow B 67 1 A' (L.eraseIdx k).length ((L.eraseIdx k).map ptr)) (ho : A'.ownBlock = A.ownBlock) (hkp : Kp (fun j => j = qb ∨ A.ownBlock = some j) w w') :
    Qs w' B qb c hi A' F (L.eraseIdx k) H E D := by
  have hkeep : ∀ j, j < w.heap.size → j ≠ qb → A.ownBlock ≠ some j → w'.heap[j]? = w.heap[j]? := fun j h1 h2 h3 => hkp.block h1 (fun h => h.elim h2 h3)
  have hmem : ∀ x, x ∈ L.eraseIdx k ↔ x ∈ L ∧ x ≠ hv L k := erase_mem hs.nd hk
  have hitem : ∀ b ∈ L, w'.heap[b]? = w.heap[b]? := fun b hbL => by
    obtain ⟨p, hp⟩ := hs.it b hbL
    exact hkeep b hp.lt (fun e => (hs.q.ne_item hp) e.symm) (fun e => (hp.ne_row hs.ra e) rfl)
  refine ⟨hq, hr, hs.lx.keep (fun j hj => ?_), fun g e => by rw [ho] at e; exact hs.ne g e, fun b hbL => ?_, hs.ok, fun b => ?_, hs.nd.sublist (List.eraseIdx_sublist ..), hs.srt.sublist (List.eraseIdx_sublist ..), fun b hbL => hs.top b ((hmem b).1 hbL).1, Nat.le_trans (List.eraseIdx_sublist ..).length_le hs.len, ⟨hs.lo.1, fun b hbL => hs.lo.2 b ((hmem b).1 hbL).1⟩, fun b hbL => ?_, fun b hbL => hs.dl b ((hmem b).1 hbL).1⟩
  · rcases hj with e | e
    · obtain ⟨cur, hg⟩ := row_blk hs.lx.row e
      exact hkeep j (Array.getElem?_eq_some_iff.1 hg).1 (fun e2 => (hs.q.ne_row hs.lx.row e) e2.symm) (fun e2 => hs.ne j e2 e)
    · exact hitem j ((hs.mem j).1 e).1
  · obtain ⟨p, hp⟩ := hs.it b ((hmem b).1 hbL).1
    exact ⟨p, (hitem b ((hmem b).1 hbL).1).trans hp⟩
  · rw [hs.mem, hmem]
    constructor
    · rintro ⟨h1, h2⟩
      exact ⟨⟨h1, fun e => hb (by rw [← e]; exact (hs.mem b).2 ⟨h1, h2⟩)⟩, h2⟩
    · rintro ⟨⟨h1, _⟩, h2⟩
      exact ⟨h1, h2⟩
  · have ho' := hs.dat b ((hmem b).1 hbL).1
    refine ho'.keep (fun j e => hkeep j (ho'.lt j e).2 (fun e2 => (ho'.ne (b := qb) hs.q (by decide)) (by rw [← e2]; exact e)) (fun e2 => ?_))
    obtain ⟨cur, hg⟩ := row_blk hs.ra e2
    exact (ho'.ne hg (by decide)) e
set_option maxRecDepth 100000 in
set_option maxHeartbeats 4000000 in
theorem remove_held (B qb : Nat) (c : Cf) (hi : Int) (A F : Value) (L H : List Nat) (E : Nat → It) (D : Nat → List Nat) (k : Nat) (w : World) (hs : Qs w B qb c hi A F L H E D) (hk : k < L.length) (h1 : 1 ≤ (E (hv L k)).hol) :
    Calls Try.prog 15 #[.pointer (some ⟨qb, 0, none⟩), .int .i64 (E (hv L k)).seq, .int .i64 (E (hv L k)).hol] w fun e w' => ∃ v, e = .returned (.tuple #[((E (hv L k)).put v).ent, .int .i64 0]) ∧ ∃ A', Hid (Qs w' B qb c hi A' F (L.eraseIdx k) H E D ∧ Ob w.heap.size w' v (D (hv L k)) ∧ Kp (inQ qb A F L) w w') := by
  have hmx : Try.prog.follows .mixedOrders = true := by kernel_rfl
  obtain ⟨W0, hW0⟩ : ∃ W0, w.alloc (Obj.cells #[.int .i64 0, .int .i64 0, .int .i64 0, .bool false, .int .i64 0, .int .i64 0, .slice none 0 0] 37) = W0 := ⟨_, rfl⟩
  have HB0 : Hid (Below w.heap.size w W0) := by rw [← hW0]; exact bel1 (Below.refl _ _) (Nat.le_refl _) _
  have hh0 : W0.heap[w.heap.size]? = some (.cells #[.int .i64 0, .int .i64 0, .int .i64 0, .bool false, .int .i64 0, .int .i64 0, .slice none 0 0] 37 (0, 0)) := by rw [← hW0]; exact heap_new _ _
  have hs0 : W0.heap.size = w.heap.size + 1 := by rw [← hW0]; simp
  have hq0 := hs.below HB0.out
  obtain ⟨b, hb⟩ : ∃ b, hv L k = b := ⟨_, rfl⟩
  have hbL : b ∈ L := by rw [← hb, hv_eq L k hk]; exact List.getElem_mem _
  have HFD : Hid (Calls Try.prog 29 #[.pointer (some ⟨qb, 0, none⟩), .int .i64 (E (hv L k)).seq, .int .i64 (E (hv L k)).hol] W0 fun e w' => e = .returned (.int .i64 (k : Int)) ∧ w' = W0) := by
    refine Calls.mono (find_any B qb c hi A F L H E D _ _ W0 hq0) ?_
    rintro e w' ⟨i, rfl, hsp, rfl⟩
    obtain ⟨_, e2⟩ := split_find hsp hs.srt hk rfl rfl
    exact ⟨by rw [e2], rfl⟩
  obtain ⟨g, cap, hA, ck, hcap⟩ := row_cell hq0.ra k hk
  have c6 := hq0.q.cell.2.2.2.2.2.2.1
  rw [hA] at c6
  have hbH : hv L k ∉ H := fun e => by
    have := ((hs.mem _).1 e).2
    omega
  have HDR := hide (drop_any B qb c hi A F L H E D k W0 hq0 hk)
  have HST : Hid (∀ (w' : World) (A' : Value), QB w' qb c hi A' F ∧ w'.ownsRow B 67 1 A' (L.eraseIdx k).length ((L.eraseIdx k).map ptr) ∧ A'.ownBlock = A.ownBlock ∧ Kp (fun j => j = qb ∨ A.ownBlock = some j) W0 w' → Qs w' B qb c hi A' F (L.eraseIdx k) H E D ∧ w'.heap[b]? = W0.heap[b]? ∧ Ob B w' (E b).dat (D b) ∧ Kp (inQ qb A F L) w w' ∧ w'.heap[w.heap.size]? = W0.heap[w.heap.size]?) := fun w' A' ⟨r1, r2, r3, r4⟩ => by
    have hd := hq0.dat b hbL
    obtain ⟨p, hp⟩ := hq0.it b hbL
    refine ⟨drop_state hq0 hk hbH r1 r2 r3 r4, r4.block hp.lt (fun e => ?_), hd.keep (fun j e => r4.block (hd.lt j e).2 (fun h => ?_)), (Kp.ofBelow HB0.out).trans (r4.mono (fun j h => h.elim .inl (fun e => .inr (.inr (.inl e))))), r4.block (by omega) (fun e => ?_)⟩
    · rcases e with e | e
      · exact (hq0.q.ne_item hp) e.symm
      · exact (hp.ne_row hq0.ra e) rfl
    · rcases h with e2 | e2
      · exact (hd.ne (b := qb) hq0.q (by decide)) (by rw [← e2]; exact e)
      · obtain ⟨cur, hg⟩ := row_blk hq0.ra e2
        exact (hd.ne hg (by decide)) e
    · rcases e with e | e
      · have := hs.q.lt
        omega
      · obtain ⟨cur, hg⟩ := row_blk hs.ra e
        have := (Array.getElem?_eq_some_iff.1 hg).1
        omega
  rw [hb] at HFD h1 ck ⊢
  obtain ⟨p, hib⟩ := hq0.it b hbL
  obtain ⟨y0, y1, y2, y3, y4, y5, y6, _⟩ := hib.cells
  have HIB := hide hib
  have HW0 := hide hW0
  have HH0 := hide hh0
  have HS0 := hide hs0
  have HS := hide hs
  have hql := hs.q.lt
  have hdl := hs.dl b hbL
  unfold ptr at ck
  unfold It.at at y0 y1 y2 y3 y4 y5 y6
  simp only at y0 y1 y2 y3 y4 y5 y6
  have hL4 := hs.len
  obtain ⟨nL, hnL⟩ : ∃ nL, L.length = nL := ⟨_, rfl⟩
  rw [hnL] at c6 hk hcap hL4
  have hne0 : ((E b).hol == 0) = false := by rw [beq_eq_false_iff_ne]; omega
  clear hW0 hh0 hs0 hb hs hq0 hib hA hnL hbH
  go_enter Try.func15, Try.ntmps15
  go_wp2_with fail
  rw [HW0.out]
  refine Calls.mono HFD.out ?_
  rintro e w1 ⟨rfl, rfl⟩
  go_wp2_with fail
  refine Calls.mono HDR.out ?_
  rintro e w3 ⟨rfl, A', HH⟩
  obtain ⟨hq3, hb3, hob, hk3, hn3⟩ := HST.out w3 A' HH.out
  have hib3 : IB w3 b ((E b).at p) := hb3.trans HIB.out
  clear y0 y1 y2 y3 y4 y5 y6
  obtain ⟨y0, y1, y2, y3, y4, y5, y6, _⟩ := hib3.cells
  unfold It.at at y0 y1 y2 y3 y4 y5 y6
  simp only at y0 y1 y2 y3 y4 y5 y6
  have HOW := hide (own_any (E b) (D b) w3 hob.rb (by omega))
  have HNZ3 : Hid (w3.heap[w.heap.size]? = some (.cells #[.int .i64 0, .int .i64 0, .int .i64 0, .bool false, .int .i64 0, .int .i64 0, .slice none 0 0] 37 (0, 0))) := hn3.trans HH0.out
  have HQ3 := hide hq3
  have HK3 := hide hk3
  unfold It.put It.ent at HOW
  clear hq3 hk3 hib3 hob hb3 hn3
  go_wp2_with fail
  refine Calls.mono HOW.out ?_
  rintro e w4 ⟨v, rfl, HOB, hb4⟩
  obtain ⟨av, cv, hv'⟩ := row_form HOB.out.1
  subst hv'
  have hnz4 : w4.heap[w.heap.size]? = some (.cells #[.int .i64 0, .int .i64 0, .int .i64 0, .bool false, .int .i64 0, .int .i64 0, .slice none 0 0] 37 (0, 0)) := (hb4.block _ (Array.getElem?_eq_some_iff.1 HNZ3.out).1).trans HNZ3.out
  obtain ⟨z0, z1, z2, z3, z4, z5, z6⟩ := ent_cells hnz4
  have f0' : w4.frozen? ⟨w.heap.size, 0, none⟩ = false := by simp [World.frozen?, hnz4]
  have f1' : w4.frozen? ⟨w.heap.size, 1, none⟩ = false := by simp [World.frozen?, hnz4]
  have f2' : w4.frozen? ⟨w.heap.size, 2, none⟩ = false := by simp [World.frozen?, hnz4]
  have f3' : w4.frozen? ⟨w.heap.size, 3, none⟩ = false := by simp [World.frozen?, hnz4]
  have f4' : w4.frozen? ⟨w.heap.size, 4, none⟩ = false := by simp [World.frozen?, hnz4]
  have f5' : w4.frozen? ⟨w.heap.size, 5, none⟩ = false := by simp [World.frozen?, hnz4]
  have f6' : w4.frozen? ⟨w.heap.size, 6, none⟩ = false := by simp [World.frozen?, hnz4]
  have HQ4 := hide ((HQ3.out.below hb4).other hnz4 (fun k hk => set7_other w4 w.heap.size k hk (.int .i64 (E b).seq) (.int .i64 (E b).pri) (.int .i64 (E b).exp) (.bool (E b).dur) (.int .i64 (E b).cnt) (.int .i64 (E b).hol) (.slice av (D b).length cv)))
  have HAT := hide (set7_at hnz4 (.int .i64 (E b).seq) (.int .i64 (E b).pri) (.int .i64 (E b).exp) (.bool (E b).dur) (.int .i64 (E b).cnt) (.int .i64 (E b).hol) (.slice av (D b).length cv))
  have hw3z : w.heap.size ≤ w3.heap.size := by have := (Array.getElem?_eq_some_iff.1 HNZ3.out).1; omega
  have HOB5 : Hid (Ob w.heap.size (set7 w4 w.heap.size (.int .i64 (E b).seq) (.int .i64 (E b).pri) (.int .i64 (E b).exp) (.bool (E b).dur) (.int .i64 (E b).cnt) (.int .i64 (E b).hol) (.slice av (D b).length cv)) (.slice av (D b).length cv) (D b)) :=
    (HOB.out.mono hw3z).keep (fun k e => set7_other _ _ k (fun e2 => (HOB.out.ne hnz4 (by decide)) (by rw [← e2]; exact e)) _ _ _ _ _ _ _)
  have HK5 : Hid (Kp (inQ qb A F L) w (set7 w4 w.heap.size (.int .i64 (E b).seq) (.int .i64 (E b).pri) (.int .i64 (E b).exp) (.bool (E b).dur) (.int .i64 (E b).cnt) (.int .i64 (E b).hol) (.slice av (D b).length cv))) := by
    have hb7 := set7_kp w4 w.heap.size w.heap.size (Nat.le_refl _) (.int .i64 (E b).seq) (.int .i64 (E b).pri) (.int .i64 (E b).exp) (.bool (E b).dur) (.int .i64 (E b).cnt) (.int .i64 (E b).hol) (.slice av (D b).length cv)
    exact (HK3.out.below hb4).transN (T := fun k => w.heap.size ≤ k) ⟨hb7.os, hb7.tape, hb7.output, hb7.size, fun k hk hn => hb7.block k (by omega)⟩ (fun k hk => .inr hk)
  clear hnz4 hb4 HOB
  go_wp2
  unfold set7 at HQ4 HAT HOB5 HK5
  obtain ⟨W5, hW5⟩ : ∃ W5, (((((((w4.setCell ⟨w.heap.size, 0, none⟩ (.int .i64 (E b).seq)).setCell ⟨w.heap.size, 1, none⟩ (.int .i64 (E b).pri)).setCell ⟨w.heap.size, 2, none⟩ (.int .i64 (E b).exp)).setCell ⟨w.heap.size, 3, none⟩ (.bool (E b).dur)).setCell ⟨w.heap.size, 4, none⟩ (.int .i64 (E b).cnt)).setCell ⟨w.heap.size, 5, none⟩ (.int .i64 (E b).hol)).setCell ⟨w.heap.size, 6, none⟩ (.slice av (D b).length cv)) = W5 := ⟨_, rfl⟩
  rw [hW5] at HQ4 HAT HOB5 HK5 ⊢
  obtain ⟨q0, q1, q2, q3, q4, q5, q6⟩ := ent_cells HAT.out
  clear hW5 z0 z1 z2 z3 z4 z5 z6 f0' f1' f2' f3' f4' f5' f6'
  refine bodyPost_ret (v := .tuple #[.agg #[.int .i64 (E b).seq, .int .i64 (E b).pri, .int .i64 (E b).exp, .bool (E b).dur, .int .i64 (E b).cnt, .int .i64 (E b).hol, .slice av (D b).length cv], .int .i64 0]) (by simp [results, Try.results15, go_sem, q0, q1, q2, q3, q4, q5, q6]) rfl ?_
  exact ⟨.slice av (D b).length cv, rfl, A', HQ4.out, HOB5.out, HK5.out⟩
set_option maxRecDepth 100000 in
set_option maxHeartbeats 4000000 in
theorem first_none (B qb : Nat) (c : Cf) (hi : Int) (A F : Value) (E : Nat → It) (w : World) (hq : QB w qb c hi A F) (hl : Lx w B F [] E) :
    Calls Try.prog 27 #[.pointer (some ⟨qb, 7, none⟩), .func (.func 44) #[] #[]] w fun e w' => e = .returned (.pointer none) ∧ w' = w := by
  have c7 := hq.cell.2.2.2.2.2.2.2
  obtain ⟨a, cap, hF⟩ := row_form hl.row
  rw [hF] at c7
  simp only [List.length_nil] at c7
  clear hq hl hF
  go_enter Try.func27, Try.ntmps27
  go_wp2
  go_loopw [5, 6] (fun v5 v6 wr => v5 = .slice none 0 0 ∧ wr = w) (fun _ _ _ => 1)
  case atStart => exact ⟨rfl, rfl⟩
  case round =>
    obtain ⟨rfl, rfl⟩ := hrel
    go_wp2_with fail
    refine Calls.mono (join_nil qb _) ?_
    rintro e w3 ⟨rfl, rfl⟩
    go_wp2
    go_ret
    exact ⟨rfl, rfl⟩
set_option maxRecDepth 100000 in
set_option maxHeartbeats 4000000 in
theorem take_none (B qb : Nat) (c : Cf) (hi : Int) (A F : Value) (L : List Nat) (E : Nat → It) (D : Nat → List Nat) (h : Int) (w : World) (hs : Qs w B qb c hi A F L [] E D) :
    Calls Try.prog 13 #[.pointer (some ⟨qb, 0, none⟩), .int .i64 h, .nilFunc] w fun e w' => e = .returned (.tuple #[.agg #[.int .i64 0, .int .i64 0, .int .i64 0, .bool false, .int .i64 0, .int .i64 0, .slice none 0 0], .bool false]) ∧ Below w.heap.size w w' := by
  have hmx : Try.prog.follows .mixedOrders = true := by kernel_rfl
  obtain ⟨W0, hW0⟩ : ∃ W0, w.alloc (Obj.cells #[.int .i64 0, .int .i64 0, .int .i64 0, .bool false, .int .i64 0, .int .i64 0, .slice none 0 0] 37) = W0 := ⟨_, rfl⟩
  have HB0 : Hid (Below w.heap.size w W0) := by rw [← hW0]; exact bel1 (Below.refl _ _) (Nat.le_refl _) _
  have hh0 : W0.heap[w.heap.size]? = some (.cells #[.int .i64 0, .int .i64 0, .int .i64 0, .bool false, .int .i64 0, .int .i64 0, .slice none 0 0] 37 (0, 0)) := by rw [← hW0]; exact heap_new _ _
  have hs0 : W0.heap.size = w.heap.size + 1 := by rw [← hW0]; simp
  have HFI : Hid (∀ w1, Below W0.heap.size W0 w1 → Calls Try.prog 27 #[.pointer (some ⟨qb, 7, none⟩), .func (.func 44) #[] #[]] w1 fun e w' => e = .returned (.pointer none) ∧ w' = w1) := fun w1 hb => by
    have q1 := (hs.below HB0.out).below hb
    exact first_none B qb c hi A F E w1 q1.q q1.lx
  have HAK : Hid (∀ w1, Calls Try.prog 28 #[.nilFunc] w1 fun e w' => e = .returned (.func (.func 44) #[] #[]) ∧ Below w1.heap.size w1 w') := fun w1 => asking_nil w1
  have HD0 : Hid (Below W0.heap.size W0 W0.drew) := (Below.refl _ W0).drew
  have HW0 := hide hW0
  have HH0 := hide hh0
  have HS0 := hide hs0
  have hql := hs.q.lt
  have HZ : Hid (∀ w4 : World, Below W0.heap.size W0 w4 → w4.heap[w.heap.size]? = some (.cells #[.int .i64 0, .int .i64 0, .int .i64 0, .bool false, .int .i64 0, .int .i64 0, .slice none 0 0] 37 (0, 0))) := fun w4 hb => (hb.block _ (by omega)).trans hh0
  clear hW0 hs hh0 hs0
  have HEND : Hid (∀ w4 : World, Below W0.heap.size W0 w4 → Below w.heap.size w (set7 w4 w.heap.size (.int .i64 0) (.int .i64 0) (.int .i64 0) (.bool false) (.int .i64 0) (.int .i64 0) (.slice none 0 0))) := fun w4 hb => (belOn HB0.out (by have := HS0.out; omega) hb).trans (set7_kp w4 w.heap.size w.heap.size (Nat.le_refl _) _ _ _ _ _ _ _)
  go_enter Try.func13, Try.ntmps13
  by_cases h1 : h < 1
  · go_wp2_with fail
    rw [HW0.out]
    have hnz4 := HZ.out W0 (Below.refl _ _)
    obtain ⟨z0, z1, z2, z3, z4, z5, z6⟩ := ent_cells hnz4
    refine bodyPost_ret (v := .tuple #[.agg #[.int .i64 0, .int .i64 0, .int .i64 0, .bool false, .int .i64 0, .int .i64 0, .slice none 0 0], .bool false]) (by simp [results, Try.results13, go_sem, z0, z1, z2, z3, z4, z5, z6]) rfl ?_
    exact ⟨rfl, HB0.out⟩
  · go_wp2_with fail
    rw [HW0.out]
    go_region_held (fun W1 => True) (trivial) (first | (go_at_call 28; refine Calls.mono (HAK.out _) ?_; rintro e w1 ⟨rfl, hb1⟩; have HB1 := hide (belOn HD0.out HD0.out.size hb1)) | (go_at_call 27; refine Calls.mono (HFI.out _ HB1.out) ?_; rintro e w2 ⟨rfl, rfl⟩))
    have hnz4 := HZ.out w2 HB1.out
    obtain ⟨z0, z1, z2, z3, z4, z5, z6⟩ := ent_cells hnz4
    have f0' : w2.frozen? ⟨w.heap.size, 0, none⟩ = false := by simp [World.frozen?, hnz4]
    have f1' : w2.frozen? ⟨w.heap.size, 1, none⟩ = false := by simp [World.frozen?, hnz4]
    have f2' : w2.frozen? ⟨w.heap.size, 2, none⟩ = false := by simp [World.frozen?, hnz4]
    have f3' : w2.frozen? ⟨w.heap.size, 3, none⟩ = false := by simp [World.frozen?, hnz4]
    have f4' : w2.frozen? ⟨w.heap.size, 4, none⟩ = false := by simp [World.frozen?, hnz4]
    have f5' : w2.frozen? ⟨w.heap.size, 5, none⟩ = false := by simp [World.frozen?, hnz4]
    have f6' : w2.frozen? ⟨w.heap.size, 6, none⟩ = false := by simp [World.frozen?, hnz4]
    have HAT := hide (set7_at hnz4 (.int .i64 0) (.int .i64 0) (.int .i64 0) (.bool false) (.int .i64 0) (.int .i64 0) (.slice none 0 0))
    have HE2 := hide (HEND.out w2 HB1.out)
    clear hb1 hnz4
    go_wp2
    unfold set7 at HAT HE2
    obtain ⟨W5, hW5⟩ : ∃ W5, (((((((w2.setCell ⟨w.heap.size, 0, none⟩ (.int .i64 0)).setCell ⟨w.heap.size, 1, none⟩ (.int .i64 0)).setCell ⟨w.heap.size, 2, none⟩ (.int .i64 0)).setCell ⟨w.heap.size, 3, none⟩ (.bool false)).setCell ⟨w.heap.size, 4, none⟩ (.int .i64 0)).setCell ⟨w.heap.size, 5, none⟩ (.int .i64 0)).setCell ⟨w.heap.size, 6, none⟩ (.slice none 0 0)) = W5 := ⟨_, rfl⟩
    rw [hW5] at HAT HE2 ⊢
    obtain ⟨q0, q1, q2, q3, q4, q5, q6⟩ := ent_cells HAT.out
    clear hW5 z0 z1 z2 z3 z4 z5 z6 f0' f1' f2' f3' f4' f5' f6'
    refine bodyPost_ret (v := .tuple #[.agg #[.int .i64 0, .int .i64 0, .int .i64 0, .bool false, .int .i64 0, .int .i64 0, .slice none 0 0], .bool false]) (by simp [results, Try.results13, go_sem, q0, q1, q2, q3, q4, q5, q6]) rfl ?_
    exact ⟨rfl, HE2.out⟩
end Go.Proofs.Ytnbhifakfehefaa
