
/- Stage 17: live. -/
import Derived.Test.YtnbhifakfehefaaKAll
namespace Go.Proofs.Ytnbhifakfehefaa
open Go.RowKit Go.Shelf
set_option linter.unusedVariables false
set_option linter.unusedSimpArgs false
set_option pp.maxSteps 200000
set_option pp.deepTerms true
attribute [local go_sem] Oper.semAt_some
/-- an entry's variable is none of a queue's blocks -/
theorem Qs.far {w : World} {B qb n : Nat} {c : Cf} {hi : Int} {A F : Value} {L H : List Nat} {E : Nat → It} {D : Nat → List Nat} (h : Qs w B qb c hi A F L H E D) {cur : Array Value} {t : TypeId} {fr : Nat × Nat} (hn : w.heap[n]? = some (.cells cur t fr)) (h1 : t ≠ 63) (h2 : t ≠ 70) (h3 : t ≠ 67) : ¬ inQ qb A F L n := by
  rintro (e | e | e | e)
  · have := h.q
    unfold QB at this
    rw [← e, hn] at this
    simp only [Option.some.injEq, Obj.cells.injEq] at this
    exact h1 this.2.1
  · obtain ⟨p, hp⟩ := h.it n e
    unfold IB at hp
    rw [hn] at hp
    simp only [Option.some.injEq, Obj.cells.injEq] at hp
    exact h2 hp.2.1
  · obtain ⟨cur', hg⟩ := row_blk h.ra e
    rw [hn] at hg
    simp only [Option.some.injEq, Obj.cells.injEq] at hg
    exact h3 hg.2.1
  · obtain ⟨cur', hg⟩ := row_blk h.lx.row e
    rw [hn] at hg
    simp only [Option.some.injEq, Obj.cells.injEq] at hg
    exact h3 hg.2.1
theorem Qs.high {w : World} {B qb : Nat} {c : Cf} {hi : Int} {A F : Value} {L H : List Nat} {E : Nat → It} {D : Nat → List Nat} (h : Qs w B qb c hi A F L H E D) (k : Nat) (hk : inQ qb A F L k) : B ≤ k := by
  rcases hk with e | e | e | e
  · rw [e]; exact h.lo.1
  · exact h.lo.2 k e
  · exact (h.ra.lt k e).1
  · exact (h.lx.row.lt k e).1
theorem single (H : List Nat) (b : Nat) (hn : H.Nodup) (hm : ∀ k, k ∈ H ↔ k = b) : H = [b] := by
  cases H with
  | nil => have := (hm b).2 rfl; simp at this
  | cons a H =>
    have ha : a = b := (hm a).1 (by simp)
    cases H with
    | nil => rw [ha]
    | cons d H =>
      have hd : d = b := (hm d).1 (by simp)
      have := List.nodup_cons.1 hn
      exact absurd (by rw [ha, hd]; simp) this.1
def cq : Cf := ⟨⟨#[113]⟩, 2, ⟨#[]⟩, 2, false⟩
theorem nil_list : (⟨#[]⟩ : ByteArray).toList = [] := by
  unfold ByteArray.toList
  unfold ByteArray.toList.loop
  rfl
theorem cq_ok : cq.ok = true := by
  have h1 : nameOk ⟨#[113]⟩ = true := by first | rfl | decide | kernel_rfl
  unfold Cf.ok cq
  simp only
  rw [h1, nil_list]
  rfl
def e0 : Nat → It := fun _ => ⟨0, 0, 0, false, 0, 0, .slice none 0 0, 0⟩
def xq (v : Value) : It := ⟨5, 4, -1, false, 0, 0, v, 0⟩
theorem xq_may (v : Value) : (xq v).may = true := by unfold xq It.may; simp
set_option maxRecDepth 100000 in
set_option maxHeartbeats 8000000 in
theorem live_in (n : Nat) (HN1 : Hid (1 ≤ n)) (w : World) : CallsIn Fence.wide n Try.prog 7 #[] w (fun e w' => e = .returned (.bool true) ∧ Below w.heap.size w w') := by
  have hdd : ∀ k : Nat, (Fence.wide.depth.isSome = true → 1 ≤ k) := fun k h => by cases h
  refine callsIn_of_wp_marks Try.func7 rfl trivial ?_ rfl
  simp only [Try.ntmps7, List.size_toArray, List.length_cons, List.length_nil, Nat.reduceAdd, Nat.reduceSub, Array.replicate_succ, Array.replicate_zero, List.push_toArray, List.append_toArray, List.nil_append, List.cons_append]
  gi_wp2_with fail
  refine ⟨trivial, hdd _, ?_⟩
  refine (callsIn_wide.2 (new_any cq (by decide) (by decide) w)).mono ?_
  rintro e w1 (⟨ho, _⟩ | ⟨_, qb, rfl, HN, hb1⟩)
  · rw [cq_ok] at ho
    cases ho
  have HQ1 := hide (Qs.empty HN.out.2 HN.out.1 e0 (fun _ => []))
  have HB1 := hide hb1
  clear hb1 HN
  gi_wp2_with fail
  obtain ⟨W2, hW2⟩ : ∃ W2, w1.alloc (Obj.cells #[.int .u8 7] 5) = W2 := ⟨_, rfl⟩
  have hb2 : Below w1.heap.size w1 W2 := by rw [← hW2]; exact bel1 (Below.refl _ _) (Nat.le_refl _) _
  have hr2 : Rb W2 (.slice (some ⟨w1.heap.size, 0, none⟩) 1 1) [7] := by
    refine ⟨_, 1, rfl, (fun e => by cases e), Nat.le_refl _, rfl, by simp, fun _ => ⟨w1.heap.size, 0, rfl, by rw [← hW2]; simp, fun j hj => ?_⟩⟩
    have : j = 0 := by simpa using hj
    subst this
    rw [← hW2]
    exact cell_new1 w1 _ _
  rw [hW2]
  clear hW2
  have hq2 := HQ1.out.below hb2
  have q := put_ok w.heap.size qb cq 0 (.slice none 0 0) (.slice none 0 0) [] [] e0 (fun _ => []) (xq (.slice (some ⟨w1.heap.size, 0, none⟩) 1 1)) [7] W2 hq2 hr2 (xq_may _) (by show (0 : Int) < 5; decide) (by simp) (by decide) (by decide)
  unfold xq It.ent at q
  refine ⟨trivial, hdd _, ?_⟩
  refine (callsIn_wide.2 q).mono ?_
  clear q
  rintro e w3 ⟨rfl, b, v, A3, F3, H3, HP⟩
  obtain ⟨hq3, hbz, hk3⟩ := HP.out
  have HQ3 := hide hq3
  have HB3 : Hid (Below w.heap.size w w3) := by
    have k := hk3.toBelow (B := w.heap.size) (by have := HB1.out.size; have := hb2.size; omega) (fun k hk hh => by have := hq2.high k hh; omega)
    exact (HB1.out.trans (hb2.mono HB1.out.size)).trans k
  clear HP hq3 hk3 hq2 hr2 hb2 HQ1
  have HQ3a : Hid (Qs w3 w.heap.size qb cq 5 A3 F3 [b] H3 (upd e0 b ⟨5, 4, -1, false, 0, 0, v, 0⟩) (updL (fun _ => []) b [7])) := HQ3
  obtain ⟨E3, hE3⟩ : ∃ E3, upd e0 b ⟨5, 4, -1, false, 0, 0, v, 0⟩ = E3 := ⟨_, rfl⟩
  have hE3b : E3 b = ⟨5, 4, -1, false, 0, 0, v, 0⟩ := by rw [← hE3, upd_at]
  rw [hE3] at HQ3a
  have HQ3' := HQ3a
  clear HQ3a
  have hH3 : H3 = [b] := single H3 b HQ3'.out.lx.nd (fun k => by
    rw [HQ3'.out.mem]
    constructor
    · rintro ⟨h, _⟩; simpa using h
    · rintro rfl; exact ⟨by simp, by rw [hE3b]⟩)
  subst hH3
  have q := take_nil w.heap.size qb cq 5 A3 F3 [b] [b] E3 (updL (fun _ => []) b [7]) 1 w3 HQ3'.out (by decide) (by simp)
  have hv0 : hv [b] 0 = b := rfl
  rw [hv0, hE3b] at q
  unfold It.held It.put It.ent at q
  simp only at q
  have HT := hide q
  have HE3 := hide hE3b
  clear q hE3 HQ3
  gi_wp2_with fail
  refine ⟨trivial, hdd _, ?_⟩
  refine (callsIn_wide.2 HT.out).mono ?_
  rintro e w4 ⟨v4, rfl, F4, H4, HP⟩
  obtain ⟨hq4, hob4, hl4, hk4⟩ := HP.out
  have hH4 : H4 = [] := List.eq_nil_of_length_eq_zero (by simpa using hl4)
  subst hH4
  have hd4 : updL (fun _ => []) b [7] b = [7] := if_pos rfl
  rw [hd4] at hob4
  obtain ⟨a4, c4, hv4⟩ := row_form hob4.1
  subst hv4
  obtain ⟨E4, hE4⟩ : ∃ E4, upd E3 b ({ seq := 5, pri := 4, exp := -1, dur := false, cnt := 0, hol := 1, dat := v, pos := 0 } : It) = E4 := ⟨_, rfl⟩
  rw [hE4] at hq4
  have hE4b : E4 b = ⟨5, 4, -1, false, 0, 1, v, 0⟩ := by rw [← hE4, upd_at]
  have HB4 : Hid (Below w.heap.size w w4) := HB3.out.trans (hk4.toBelow HB3.out.size (fun k hk hh => by have := HQ3'.out.high k hh; omega))
  have HQ4 := hide hq4
  clear HP hq4 hob4 hl4 hk4 hE4 HT
  gi_wp2_with fail
  obtain ⟨W4, hW4⟩ : ∃ W4, w4.alloc (Obj.cells #[.int .i64 5, .int .i64 4, .int .i64 (-1), .bool false, .int .i64 0, .int .i64 1, .slice a4 1 c4] 37) = W4 := ⟨_, rfl⟩
  have hb4 : Below w4.heap.size w4 W4 := by rw [← hW4]; exact bel1 (Below.refl _ _) (Nat.le_refl _) _
  have ha4 : W4.heap[w4.heap.size]? = some (.cells #[.int .i64 5, .int .i64 4, .int .i64 (-1), .bool false, .int .i64 0, .int .i64 1, .slice a4 1 c4] 37 (0, 0)) := by rw [← hW4]; exact heap_new _ _
  rw [hW4]
  clear hW4
  have hq4 := HQ4.out.below hb4
  have q := back_alive w.heap.size qb cq 5 A3 F4 [b] [] E4 (updL (fun _ => []) b [7]) 0 1 W4 hq4 (by simp) (by rw [hv0, hE4b]; exact Int.le_refl 1) (by rw [hv0, hE4b]; exact Int.le_refl 0) (by rw [hv0, hE4b]; show (0 : Int) ≤ 4294967295; decide) (by rw [hv0, hE4b]; rfl) (by decide) (by decide) (by simp)
  rw [hv0, hE4b] at q
  unfold It.back It.put It.ent at q
  simp only at q
  refine ⟨trivial, hdd _, ?_⟩
  refine (callsIn_wide.2 q).mono ?_
  clear q
  rintro e w5 ⟨v5, rfl, F5, H5, HP⟩
  obtain ⟨hq5, hob5, hl5, hk5⟩ := HP.out
  rw [hd4] at hob5
  obtain ⟨a5, c5, hv5⟩ := row_form hob5.1
  subst hv5
  have hH5 : H5.length = 1 := by simpa using hl5
  have ha5 : w5.heap[w4.heap.size]? = some (.cells #[.int .i64 5, .int .i64 4, .int .i64 (-1), .bool false, .int .i64 0, .int .i64 1, .slice a4 1 c4] 37 (0, 0)) := (hk5.block (Array.getElem?_eq_some_iff.1 ha4).1 (hq4.far ha4 (by decide) (by decide) (by decide))).trans ha4
  have HA5 := hide ha5
  obtain ⟨E5, hE5⟩ : ∃ E5, upd E4 b ({ seq := 5, pri := 4, exp := -1, dur := false, cnt := 1, hol := 0, dat := v, pos := 0 } : It) = E5 := ⟨_, rfl⟩
  rw [hE5] at hq5
  have hE5b : E5 b = ⟨5, 4, -1, false, 1, 0, v, 0⟩ := by rw [← hE5, upd_at]
  have HE5 := hide hE5b
  have HB5 : Hid (Below w.heap.size w w5) := (HB4.out.trans (hb4.mono HB4.out.size)).trans (hk5.toBelow (by have := HB4.out.size; have := hb4.size; omega) (fun k hk hh => by have := hq4.high k hh; omega))
  have HQ5 := hide hq5
  have HH5 := hide hH5
  clear HP hq5 hob5 hl5 hk5 hE5 hq4 ha4 hb4 hE4b HQ4 ha5 hE5b hH5
  gi_wp2_with fail
  obtain ⟨W5, hW5⟩ : ∃ W5, w5.alloc (Obj.cells #[.int .i64 5, .int .i64 4, .int .i64 (-1), .bool false, .int .i64 1, .int .i64 0, .slice a5 1 c5] 37) = W5 := ⟨_, rfl⟩
  have hb5 : Below w5.heap.size w5 W5 := by rw [← hW5]; exact bel1 (Below.refl _ _) (Nat.le_refl _) _
  have HX5 : Hid (W5.heap[w5.heap.size]? = some (.cells #[.int .i64 5, .int .i64 4, .int .i64 (-1), .bool false, .int .i64 1, .int .i64 0, .slice a5 1 c5] 37 (0, 0))) := by rw [← hW5]; exact heap_new _ _
  rw [hW5]
  clear hW5
  have q := len_any w.heap.size qb cq 5 A3 F5 [b] H5 E5 (updL (fun _ => []) b [7]) W5 (HQ5.out.below hb5)
  rw [HH5.out] at q
  have HLN := hide q
  have HBB5 := hide hb5
  clear q hb5
  refine ⟨trivial, hdd _, ?_⟩
  refine (callsIn_wide.2 HLN.out).mono ?_
  rintro e w6 ⟨rfl, hb6⟩
  have HB6 := hide (belOn HBB5.out HBB5.out.size hb6)
  have HB65 := hide hb6
  clear hb6
  gi_wp2_with fail
  obtain ⟨W6, hW6⟩ : ∃ W6, w6.alloc (Obj.cells #[.int .i64 0] 3) = W6 := ⟨_, rfl⟩
  have hb6 : Below w6.heap.size w6 W6 := by rw [← hW6]; exact bel1 (Below.refl _ _) (Nat.le_refl _) _
  have hn6 : W6.heap[w6.heap.size]? = some (.cells #[.int .i64 0] 3 (0, 0)) := by rw [← hW6]; exact heap_new _ _
  rw [hW6]
  clear hW6
  refine ⟨trivial, hdd _, ?_⟩
  refine (callsIn_wide.2 (all_any qb W6)).mono ?_
  rintro e w7 ⟨rfl, hw7⟩
  have hb7 : Below W6.heap.size W6 w7 := by rw [hw7]; exact bel1 (Below.refl _ _) (Nat.le_refl _) _
  have hbq : w7.heap[W6.heap.size]? = some (.cells #[.pointer (some ⟨qb, 0, none⟩)] 25 (0, 0)) := by rw [hw7]; exact heap_new _ _
  have hb57 : Below w5.heap.size w5 w7 := belOn (belOn HB6.out HB6.out.size hb6) (by have := HB6.out.size; have := hb6.size; omega) hb7
  have hb67 : Below w6.heap.size w6 w7 := belOn hb6 hb6.size hb7
  have HQ7 := hide (HQ5.out.below hb57)
  have hz5 : w5.heap.size < w6.heap.size := by
    have := (Array.getElem?_eq_some_iff.1 HX5.out).1
    exact Nat.lt_of_lt_of_le this HB65.out.size
  have HC7 : Hid (w7.heap[w4.heap.size]? = some (.cells #[.int .i64 5, .int .i64 4, .int .i64 (-1), .bool false, .int .i64 0, .int .i64 1, .slice a4 1 c4] 37 (0, 0)) ∧ w7.heap[w5.heap.size]? = some (.cells #[.int .i64 5, .int .i64 4, .int .i64 (-1), .bool false, .int .i64 1, .int .i64 0, .slice a5 1 c5] 37 (0, 0)) ∧ w7.heap[w6.heap.size]? = some (.cells #[.int .i64 0] 3 (0, 0))) :=
    ⟨(hb57.block _ (Array.getElem?_eq_some_iff.1 HA5.out).1).trans HA5.out, (hb67.block _ hz5).trans ((HB65.out.block _ (Array.getElem?_eq_some_iff.1 HX5.out).1).trans HX5.out), (hb7.block _ (Array.getElem?_eq_some_iff.1 hn6).1).trans hn6⟩
  have HB7 : Hid (Below w.heap.size w w7) := belOn HB5.out HB5.out.size hb57
  have HBQ := hide hbq
  have hne : (binOp BinOp.eql 54 (.func (.func 36) #[] #[.pointer (some ⟨W6.heap.size, 0, none⟩)]) .nilFunc).run Try.prog w7 = .ok (.bool false) w7 := by kernel_rfl
  clear hw7 hb7 hb57 hb67 hbq hb6 hn6
  gi_wp2_with fail
  -- the range
  have hsq := all_seq (n - 1) w.heap.size qb b W6.heap.size cq 5 A3 F5 H5 E5 (updL (fun _ => []) b [7]) w7 HQ7.out HBQ.out
  rw [HE5.out] at hsq
  unfold It.put It.ent at hsq
  simp only at hsq
  have hz4 : w4.heap.size < w7.heap.size := (Array.getElem?_eq_some_iff.1 HC7.out.1).1
  have hz57 : w5.heap.size < w7.heap.size := (Array.getElem?_eq_some_iff.1 HC7.out.2.1).1
  have hz67 : w6.heap.size < w7.heap.size := (Array.getElem?_eq_some_iff.1 HC7.out.2.2).1
  have hwz : w.heap.size ≤ w7.heap.size := HB7.out.size
  have hn4 : w4.heap.size ≠ w6.heap.size := fun e => by
    have h1 := HC7.out.1
    have h2 := HC7.out.2.2
    rw [e, h2] at h1
    simp at h1
  have hw6 : w.heap.size ≤ w6.heap.size := by have := HB5.out.size; have := HB6.out.size; omega
  refine wpIn_rangeFunc_ownH rfl HN1.out (gf := 36) (lb := #[.pointer (some ⟨W6.heap.size, 0, none⟩)]) rfl trivial (enters_of Try.func36 (by kernel_rfl) rfl) hsq (fun _ _ => trivial) (fun _ _ _ _ _ _ _ _ => trivial) (Below.refl _ _) (fun _ => rfl)
    (fun pre W => W.heap[w4.heap.size]? = some (.cells #[.int .i64 5, .int .i64 4, .int .i64 (-1), .bool false, .int .i64 0, .int .i64 1, .slice a4 1 c4] 37 (0, 0)) ∧ W.heap[w5.heap.size]? = some (.cells #[.int .i64 5, .int .i64 4, .int .i64 (-1), .bool false, .int .i64 1, .int .i64 0, .slice a5 1 c5] 37 (0, 0)) ∧ W.heap[w6.heap.size]? = some (.cells #[.int .i64 (5 * (pre.length : Int))] 3 (0, 0)) ∧ Below w.heap.size w W ∧ w7.heap.size ≤ W.heap.size)
    (fun _ _ _ => False) ?hI (fun _ _ _ _ _ h _ _ => h.elim) ⟨HC7.out.1, HC7.out.2.1, HC7.out.2.2, HB7.out, Nat.le_refl _⟩
    (fun x a' W => ∃ bx, W.heap[bx]? = some (.cells #[.int .i64 5, .int .i64 4, .int .i64 (-1), .bool false, .int .i64 1, .int .i64 0, .slice x.1 1 x.2] 37 (0, 0)) ∧ w7.heap.size ≤ bx ∧ a' = { tmps := #[Value.bool false, Value.pointer (some { block := qb, off := 0 }), Value.int IntKind.i64 0, Value.pointer (some { block := w4.heap.size, off := 0 }), Value.bool true, Value.pointer (some { block := w5.heap.size, off := 0 }), Value.bool false, Value.int IntKind.i64 0, Value.int IntKind.i64 1, Value.int IntKind.i64 0, Value.pointer (some { block := w6.heap.size, off := 0 }), Value.func (Fn.func 36) #[] #[Value.pointer (some { block := W6.heap.size, off := 0 })], Value.pointer (some { block := bx, off := 0 }), Value.agg #[Value.string { data := #[113] }, Value.int IntKind.i64 2, Value.string { data := #[] }, Value.int IntKind.i64 2, Value.bool false], Value.pointer (some { block := qb, off := 0 }), Value.pointer (some { block := qb, off := 0 }), Value.bool false, Value.pointer (some { block := qb, off := 0 }), Value.slice (some { block := w1.heap.size, off := 0 }) 1 1, Value.agg #[Value.int IntKind.i64 5, Value.int IntKind.i64 4, Value.int IntKind.i64 (-1), Value.bool false, Value.int IntKind.i64 0, Value.int IntKind.i64 0, Value.slice (some { block := w1.heap.size, off := 0 }) 1 1], Value.int IntKind.i64 0, Value.tuple #[Value.agg #[Value.int IntKind.i64 5, Value.int IntKind.i64 4, Value.int IntKind.i64 (-1), Value.bool false, Value.int IntKind.i64 0, Value.int IntKind.i64 1, Value.slice a4 1 c4], Value.bool true], Value.pointer (some { block := qb, off := 0 }), Value.tuple #[Value.agg #[Value.int IntKind.i64 5, Value.int IntKind.i64 4, Value.int IntKind.i64 (-1), Value.bool false, Value.int IntKind.i64 0, Value.int IntKind.i64 1, Value.slice a4 1 c4], Value.bool true], Value.agg #[Value.int IntKind.i64 5, Value.int IntKind.i64 4, Value.int IntKind.i64 (-1), Value.bool false, Value.int IntKind.i64 0, Value.int IntKind.i64 1, Value.slice a4 1 c4], Value.bool true, Value.tuple #[Value.agg #[Value.int IntKind.i64 5, Value.int IntKind.i64 4, Value.int IntKind.i64 (-1), Value.bool false, Value.int IntKind.i64 1, Value.int IntKind.i64 0, Value.slice a5 1 c5], Value.bool false, Value.int IntKind.i64 0], Value.pointer (some { block := qb, off := 0 }), Value.tuple #[Value.agg #[Value.int IntKind.i64 5, Value.int IntKind.i64 4, Value.int IntKind.i64 (-1), Value.bool false, Value.int IntKind.i64 1, Value.int IntKind.i64 0, Value.slice a5 1 c5], Value.bool false, Value.int IntKind.i64 0], Value.agg #[Value.int IntKind.i64 5, Value.int IntKind.i64 4, Value.int IntKind.i64 (-1), Value.bool false, Value.int IntKind.i64 1, Value.int IntKind.i64 0, Value.slice a5 1 c5], Value.bool false, Value.int IntKind.i64 0, Value.tuple #[Value.int IntKind.i64 1, Value.int IntKind.i64 0], Value.pointer (some { block := qb, off := 0 }), Value.tuple #[Value.int IntKind.i64 1, Value.int IntKind.i64 0], Value.int IntKind.i64 1, Value.int IntKind.i64 0, Value.pointer (some { block := qb, off := 0 }), Value.func (Fn.func 36) #[] #[Value.pointer (some { block := W6.heap.size, off := 0 })], Value.func (Fn.func 36) #[] #[Value.pointer (some { block := W6.heap.size, off := 0 })], Value.bool false, Value.func (Fn.func 36) #[] #[Value.pointer (some { block := W6.heap.size, off := 0 })], Value.agg #[.int .i64 5, .int .i64 4, .int .i64 (-1), .bool false, .int .i64 1, .int .i64 0, .slice x.1 1 x.2], undef, undef, undef, undef, undef, undef, undef, undef, undef, undef, undef, undef, undef, undef, undef, undef, undef, undef, undef, undef, undef, undef, undef, undef, undef, undef, undef, undef, undef, undef, undef, undef, undef, undef, undef, undef, undef, undef, undef, undef, undef, undef, undef, undef, undef], defers := [] }) ?hAx ?assign ?body ?done (fun _ _ _ _ _ _ h _ => h.elim)
  case hI =>
    rintro pre A B row ⟨h1, h2, h3, h4, h5⟩ hg hr
    have keep : ∀ {k : Nat} {o : Obj}, k < w7.heap.size → A.heap[k]? = some o → B.heap[k]? = some o := fun {k o} hk ho => (hg.block k (Array.getElem?_eq_some_iff.1 ho).1 (fun e => by have := (hr k e.symm).1; omega)).trans ho
    refine ⟨keep hz4 h1, keep hz57 h2, keep hz67 h3, ⟨hg.os.trans h4.os, hg.tape.trans h4.tape, hg.output.trans h4.output, Nat.le_trans h4.size hg.size, fun k hk => ?_⟩, Nat.le_trans h5 hg.size⟩
    exact (hg.block k (by have := h4.size; omega) (fun e => by have := (hr k e.symm).1; omega)).trans (h4.block k hk)
  case hAx =>
    rintro x a' _ A B row ⟨bx, h1, h2, h3⟩ hg hr
    refine ⟨bx, (hg.block bx (Array.getElem?_eq_some_iff.1 h1).1 (fun e => ?_)).trans h1, h2, h3⟩
    obtain ⟨_, o, e1, e2⟩ := hr bx e.symm
    rw [h1] at e1
    cases e1
    cases e2
  case assign =>
    rintro l pre x W K ⟨h1, h2, h3, h4, h5⟩ hK
    have HI := hide (And.intro h1 (And.intro h2 (And.intro h3 (And.intro h4 h5))))
    have HK := hide hK
    clear h1 h2 h3 h4 h5 hK hsq
    have hba := bel1 (Below.refl W.heap.size W) (Nat.le_refl _) (Obj.cells #[.int .i64 5, .int .i64 4, .int .i64 (-1), .bool false, .int .i64 1, .int .i64 0, .slice x.1 1 x.2] 37)
    gi_wp2_with fail
    obtain ⟨h1, h2, h3, h4, h5⟩ := HI.out
    refine HK.out _ _ ⟨hba.size, fun k o _ hk _ => (hba.block k (Array.getElem?_eq_some_iff.1 hk).1).trans hk⟩ trivial ⟨(hba.block _ (Array.getElem?_eq_some_iff.1 h1).1).trans h1, (hba.block _ (Array.getElem?_eq_some_iff.1 h2).1).trans h2, (hba.block _ (Array.getElem?_eq_some_iff.1 h3).1).trans h3, belOn h4 h4.size hba, Nat.le_trans h5 hba.size⟩ ⟨W.heap.size, heap_new _ _, h5, rfl⟩
  case body =>
    rintro l pre x a' W hl ⟨r, hr⟩ ⟨h1, h2, h3, h4, h5⟩ ⟨bx, hx, hbx, rfl⟩ hlen
    have c0 := cellOf h3 0 _ rfl
    have f0 : W.frozen? ⟨w6.heap.size, 0, none⟩ = false := by simp [World.frozen?, h3]
    have d0 := cellOf hx 0 _ rfl
    have HI := hide (And.intro h1 (And.intro h2 (And.intro h3 (And.intro h4 h5))))
    have hp0 : pre = [] := List.eq_nil_of_length_eq_zero (by omega)
    subst hp0
    clear h1 h2 h3 h4 h5 hr hx hsq
    gi_wp2_with fail
    obtain ⟨h1, h2, h3, h4, h5⟩ := HI.out
    refine ⟨⟨by simp, fun k o _ hk ho => ?_⟩, trivial, (blk_set_other _ _ _ _ hn4).trans h1, (blk_set_other _ _ _ _ (by show w5.heap.size ≠ w6.heap.size; omega)).trans h2, ?_, h4.setCell (p := ⟨w6.heap.size, 0, none⟩) hw6 _, by simpa using h5⟩
    · refine (blk_set_other _ _ _ _ (fun e => ?_)).trans hk
      have e' : k = w6.heap.size := e
      rw [e', h3] at hk
      cases hk
      cases ho
    · simp [World.setCell, Array.getElem?_modify, h3]
  case done =>
    rintro D xs W hD ⟨v, rfl⟩ ⟨h1, h2, h3, h4, h5⟩ hK
    have p1 := cellOf h1 5 _ rfl
    have p2 := cellOf h2 4 _ rfl
    have p3 := cellOf h2 6 _ rfl
    have p4 := cellOf h3 0 _ rfl
    have HI := hide (And.intro h1 (And.intro h2 (And.intro h3 (And.intro h4 hK))))
    clear h1 h2 h3 h4 h5 hK hsq
    gi_wp2_with fail
    obtain ⟨h1, h2, h3, h4, hK⟩ := HI.out
    refine ⟨by simp, .inl ⟨_, _, rfl, run_takeDeferred hK, ?_⟩⟩
    refine ⟨_, results_tmp rfl _ _ _, rfl, h4.os, h4.tape, h4.output, ?_, fun k hk => ?_⟩
    · simpa using h4.size
    · exact (World.putObj_heap_other (by omega)).trans (h4.block k hk)
theorem live_any (w : World) : Calls Try.prog 7 #[] w (fun e w' => e = .returned (.bool true) ∧ Below w.heap.size w w') :=
  callsIn_wide.1 (live_in 2 (hide (by decide)) w)
end Go.Proofs.Ytnbhifakfehefaa
