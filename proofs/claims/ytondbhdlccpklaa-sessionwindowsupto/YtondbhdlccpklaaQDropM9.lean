import Derived.Test.YtondbhdlccpklaaQAllM9

/- Stage 13: drop. -/
namespace Go.Proofs.Ytondbhdlccpklaa
open Go.RowKit Go.Maps
set_option linter.unusedVariables false
set_option linter.unusedSimpArgs false

/-- what is left when some are still to come -/
def Lft (L : List (Int × Pd)) (h : Int) (left : Lit → Bool) (Li : List (Int × Pd)) : Prop := ∀ q, q ∈ Li ↔ q ∈ L ∧ (left (.int .i64 q.1) = true ∨ q.2.2.1 ≠ h)
theorem Lft.start {L : List (Int × Pd)} {h : Int} {D : DataW Value} (hR : Rp pdV D L) : Lft L h (Maps.has D) L := fun q => ⟨fun hq => ⟨hq, .inl (by rw [hR.has]; exact any_iff.2 (List.mem_map_of_mem hq))⟩, fun hq => hq.1⟩
theorem Lft.done {L Li : List (Int × Pd)} {h : Int} {left : Lit → Bool} (hl : Lft L h left Li) (hn : (L.map (·.1)).Nodup) (hi : (Li.map (·.1)).Nodup) (h0 : ∀ k : Int, left (.int .i64 k) = false) : Li.Perm (L.filter fun p => p.2.2.1 != h) := by
  have nd : ∀ {l : List (Int × Pd)}, (l.map (·.1)).Nodup → l.Nodup := fun {l} hh => by
    rw [List.Nodup, List.pairwise_map] at hh
    exact hh.imp (fun a b => a (by rw [b]))
  rw [List.perm_ext_iff_of_nodup (nd hi) (nd (nodup_filter hn _))]
  intro q
  rw [hl q, List.mem_filter]
  simp [h0]
theorem pair_eq {L : List (Int × Pd)} (hn : (L.map (·.1)).Nodup) {x : Int} {p q : Pd} (h1 : (x, p) ∈ L) (h2 : (x, q) ∈ L) : p = q := by
  induction L with
  | nil => cases h1
  | cons a t ih =>
    simp only [List.map_cons, List.nodup_cons] at hn
    rcases List.mem_cons.1 h1 with e1 | h1
    · rcases List.mem_cons.1 h2 with e2 | h2
      · have := e1.trans e2.symm
        cases this
        rfl
      · exact absurd (by rw [← e1]; exact List.mem_map_of_mem (f := (·.1)) h2) hn.1
    · rcases List.mem_cons.1 h2 with e2 | h2
      · exact absurd (by rw [← e2]; exact List.mem_map_of_mem (f := (·.1)) h1) hn.1
      · exact ih hn.2 h1 h2
theorem Lft.stay {L Li : List (Int × Pd)} {h : Int} {left : Lit → Bool} (hl : Lft L h left Li) (hn : (L.map (·.1)).Nodup) {x : Int} {p : Pd} (hm : (x, p) ∈ Li) (hp : p.2.1 ≠ h) : Lft L h (fun z => left z && !z.sameKey (.int .i64 x)) Li := fun q => by
  rw [hl q]
  constructor
  · rintro ⟨h1, h2⟩
    refine ⟨h1, ?_⟩
    by_cases e : q.1 = x
    · right
      have := pair_eq hn (((hl (x, p)).1 hm).1) (show (x, q.2) ∈ L by rw [← e]; exact h1)
      rw [← this]
      exact hp
    · rcases h2 with h2 | h2
      · left
        simp [lit_same, h2, e]
      · exact .inr h2
  · rintro ⟨h1, h2⟩
    refine ⟨h1, h2.imp (fun h3 => ?_) id⟩
    simp at h3
    exact h3.1
theorem Lft.gone {L Li : List (Int × Pd)} {h : Int} {left : Lit → Bool} (hl : Lft L h left Li) (hn : (L.map (·.1)).Nodup) {x : Int} {p : Pd} (hm : (x, p) ∈ Li) (hp : p.2.1 = h) : Lft L h (fun z => left z && !z.sameKey (.int .i64 x)) (Li.filter fun p => p.1 != x) := fun q => by
  rw [List.mem_filter, hl q]
  constructor
  · rintro ⟨⟨h1, h2⟩, h3⟩
    simp at h3
    refine ⟨h1, h2.imp (fun h4 => ?_) id⟩
    simp [lit_same, h4, h3]
  · rintro ⟨h1, h2⟩
    have hne : q.1 ≠ x := by
      intro e
      rcases h2 with h2 | h2
      · simp [lit_same, e] at h2
      · have := pair_eq hn (((hl (x, p)).1 hm).1) (show (x, q.2) ∈ L by rw [← e]; exact h1)
        exact h2 (by rw [← this]; exact hp)
    refine ⟨⟨h1, h2.imp (fun h3 => ?_) id⟩, by simp [hne]⟩
    simp at h3
    exact h3.1
section
variable {ops : Array Oper} {rest : List Oper} {o : Oper} {a : Act} {Q : Exit → Act → World → Prop} {w : World}
theorem delr_P (hg : o.guard = none) (m x : Operand) (hop : o.op = Op.call { callee := Callee.builtin Builtin.delete, args := #[m, x], argTypes := #[90, 3] }) (b r n : Nat) (D : DataW Value) (left : Lit → Bool) (cnt : Nat) (hm : a.eval m = .map (some b)) (k : Int) (hx : a.eval x = .int .i64 k) (h : w.ranges Try.prog 3 rP b r n D left cnt) (hk : wf64 k)
    (hK : ∀ w' cnt', w'.ranges Try.prog 3 rP b r n (D.del (.int .i64 k)) (fun z => left z && !z.sameKey (.int .i64 k)) cnt' → cnt' ≤ cnt → Kp (fun q => q = b) w w' → w'.heap.size = w.heap.size → wpList Try.prog ops Q rest (a.put o.dst (.tuple #[])) w') : wpList Try.prog ops Q (o :: rest) a w :=
  wpList_delete_ranges w hg m x 90 3 hop 75 Try.keyed Try.underlying90 rP b r n D left cnt hm h _ _ hx (key64 hk) fun w' c' r1 r2 r3 => hK w' c' r1 r2 (grown_kp r3) (turned_size r3)
end
theorem ranges_below {w w' : World} {b r n : Nat} {D : DataW Value} {left : Lit → Bool} {cnt : Nat} (h : w.ranges Try.prog 3 rP b r n D left cnt) (hb : Below w.heap.size w w') : w'.ranges Try.prog 3 rP b r n D left cnt :=
  h.kept (row := none) ⟨hb.os, hb.tape, hb.output, hb.size, fun i hi _ => hb.block i hi⟩ (by simp) (by simp)
set_option maxRecDepth 100000 in
theorem belongs_any (p : Pd) (hb : Nat) (h : Int) (w : World) (hl : hb < w.heap.size) (hc : w.cell? ⟨hb, 0, none⟩ = some (.int .i64 h)) :
    Calls Try.prog 60 #[.agg #[.int .i64 p.1, .int .i64 p.2.1, .string p.2.2], .pointer (some ⟨hb, 0, none⟩)] w fun e w' => e = .returned (.bool (decide (p.2.1 = h))) ∧ Below w.heap.size w w' := by
  go_enter Try.func60, Try.ntmps60
  go_wp2
  go_ret
  exact ⟨by show Ending.returned (.bool (p.2.1 == h)) = _; rw [Bool.beq_eq_decide_eq], bel1 (Below.refl _ _) (Nat.le_refl _) _⟩
set_option maxRecDepth 100000 in
set_option maxHeartbeats 2000000 in
theorem drop_any (b hb : Nat) (L : List (Int × Pd)) (h : Int) (w : World) (hT : TbP w b L) (hl : hb < w.heap.size) (hc : w.cell? ⟨hb, 0, none⟩ = some (.int .i64 h)) (hne : hb ≠ b) :
    Calls Try.prog 61 #[.map (some b), .func (.func 60) #[] #[.pointer (some ⟨hb, 0, none⟩)]] w fun e w' => e = .returned (.tuple #[]) ∧ TbP w' b (L.filter fun p => p.2.2.1 != h) ∧ Kp (fun q => q = b) w w' := by
  have HT := hide hT
  have hbl := hT.lt
  have hnd : Hid ((L.map (·.1)).Nodup) := by obtain ⟨D, _, h⟩ := hT; exact h.1
  have HC := hide hc
  clear hT hc
  go_enter Try.func61, Try.ntmps61
  go_wp2_with (at_range; refine range_P rfl _ rfl b rfl L HT.out ?_; intro w1 D0 hR hrg hg1 hs1)
  have HR0 := hide hR
  have HG0 := hide hrg
  have HK1 : Hid (Kp (fun q => q = b) w w1) := (Kp.refl _ _).grown hg1 (fun j hj => by cases hj)
  have hw1 : w.heap.size < w1.heap.size := by omega
  clear hR hrg hg1 hs1
  go_frame
  go_loopw [4] (fun _ wr => ∃ left cnt D Li, wr.ranges Try.prog 3 rP b w.heap.size L.length D left cnt ∧ Rp pdV D Li ∧ Hid (Lft L h left Li) ∧ Kp (fun q => q = b) w wr ∧ w.heap.size < wr.heap.size) (fun _ wr => wr.rangeLeft b w.heap.size)
  case atStart => exact ⟨_, _, _, _, HG0.out, HR0.out, Lft.start HR0.out, HK1.out, hw1⟩
  case round =>
    obtain ⟨left, cnt, D, Li, hrg, hR, hlf, hk, hlt⟩ := hrel
    have HRg := hide hrg
    have HR := hide hR
    have HK := hide hk
    clear hrg hR hk HG0 HR0 HK1
    go_wp2_with (at_next; refine next_P rfl _ rfl b w.heap.size L.length D Li left cnt rfl HR.out HRg.out ?_ ?_)
    · intro hl0
      go_wp2
      go_end0
      refine ⟨rfl, ?_, HK.out⟩
      have ho := HRg.out.owns
      exact (TbP.mk ho HR.out).perm (hlf.out.done hnd.out HR.out.1 hl0)
    · intro x p w2 cnt2 hm hwx hlx hrg2 hlt2 hg2 hs2 hen
      have HRg2 := hide hrg2
      have HK2 : Hid (Kp (fun q => q = b) w w2) := HK.out.grown hg2 (fun j hj => by cases hj; exact .inr (Nat.le_refl _))
      have HM := hide hm
      have HX := hide hwx
      have hhb2 : hb < w2.heap.size := by have := HK2.out.size; omega
      have hc2 : w2.cell? ⟨hb, 0, none⟩ = some (.int .i64 h) := (HK2.out.cell hl hne).trans HC.out
      clear hrg2 hm hwx hg2
      have HBl := hide (belongs_any p hb h (w2.alloc (.cells #[.int .i64 p.1, .int .i64 p.2.1, .string p.2.2] 75)) (by simp; omega) (by rw [World.cell?_alloc_lt _ _ _ hhb2]; exact hc2))
      by_cases hp : p.2.1 = h
      · rw [decide_eq_true hp] at HBl
        have HLg := hide (hlf.out.gone hnd.out HM.out hp)
        have HDl := hide (HR.out.del x)
        clear hp
        go_wp2_with fail
        refine HBl.out.mono ?_
        rintro e3 w3 ⟨rfl, b3⟩
        have hb23 : Below w2.heap.size w2 w3 := belOn (bel1 (Below.refl _ _) (Nat.le_refl _) _) (by simp) b3
        have HRg3 := hide (ranges_below HRg2.out hb23)
        have HK3 := hide (HK2.out.below hb23)
        have hs3 := hb23.size
        clear b3 hb23
        go_wp2_with (at_delete; refine delr_P rfl _ _ rfl b w.heap.size L.length D _ cnt2 rfl x rfl HRg3.out HX.out ?_; intro w4 cnt4 r4 l4 k4 z4; go_frame)
        rw [Maps.strike_twice] at r4
        go_roundw
        case rel => exact ⟨_, cnt4, _, _, r4, HDl.out, HLg.out, HK3.out.trans k4, by omega⟩
        case measure => rw [r4.left_eq, HRg.out.left_eq]; omega
      · rw [decide_eq_false hp] at HBl
        have HLg := hide (hlf.out.stay hnd.out HM.out hp)
        clear hp
        go_wp2_with fail
        refine HBl.out.mono ?_
        rintro e3 w3 ⟨rfl, b3⟩
        have hb23 : Below w2.heap.size w2 w3 := belOn (bel1 (Below.refl _ _) (Nat.le_refl _) _) (by simp) b3
        have HRg3 := hide (ranges_below HRg2.out hb23)
        have HK3 := hide (HK2.out.below hb23)
        have hs3 := hb23.size
        clear b3 hb23
        go_wp2
        go_roundw
        case rel => exact ⟨_, cnt2, _, _, HRg3.out, HR.out, HLg.out, HK3.out, by omega⟩
        case measure => rw [HRg3.out.left_eq, HRg.out.left_eq]; exact hlt2
end Go.Proofs.Ytondbhdlccpklaa
