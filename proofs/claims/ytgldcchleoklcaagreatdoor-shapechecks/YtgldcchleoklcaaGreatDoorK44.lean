/- VAsLent, VAsLentW, VAsLentV -/
import Derived.Test.YtgldcchleoklcaaGreatDoorK43
import Derived.Deep.RegionWith
namespace Go.Proofs.YtgldcchleoklcaaGreatDoor

open Go.RowKit
set_option linter.unusedVariables false
set_option linter.unusedSimpArgs false

/-- only the blocks from lo up to hi have turned, of those that were there -/
structure Turns (lo hi : Nat) (w w' : World) : Prop where
  os : w'.os = w.os
  tape : w'.tape = w.tape
  output : w'.output = w.output
  size : w.heap.size ≤ w'.heap.size
  block : ∀ k, k < w.heap.size → ¬ (lo ≤ k ∧ k < hi) → w'.heap[k]? = w.heap[k]?
theorem Turns.refl (lo hi : Nat) (w : World) : Turns lo hi w w := ⟨rfl, rfl, rfl, Nat.le_refl _, fun _ _ _ => rfl⟩
theorem Turns.trans {lo hi : Nat} {a b c : World} (h : Turns lo hi a b) (k : Turns lo hi b c) : Turns lo hi a c :=
  ⟨k.os.trans h.os, k.tape.trans h.tape, k.output.trans h.output, Nat.le_trans h.size k.size, fun i hi hn => (k.block i (Nat.lt_of_lt_of_le hi h.size) hn).trans (h.block i hi hn)⟩
theorem Turns.wide {lo hi lo' hi' : Nat} {a b : World} (h : Turns lo hi a b) (h1 : lo' ≤ lo) (h2 : hi ≤ hi') : Turns lo' hi' a b :=
  ⟨h.os, h.tape, h.output, h.size, fun i hi hn => h.block i hi (fun q => hn (by omega))⟩
theorem Turns.of_below {lo hi : Nat} {a b : World} (h : Below a.heap.size a b) : Turns lo hi a b := ⟨h.os, h.tape, h.output, h.size, fun i hi _ => h.block i hi⟩
theorem Turns.below {lo hi n : Nat} {a b : World} (h : Turns lo hi a b) (hn : n ≤ lo) (hs : n ≤ a.heap.size) : Below n a b := ⟨h.os, h.tape, h.output, h.size, fun i hi => h.block i (by omega) (by omega)⟩
theorem Turns.drew {lo hi : Nat} {a b : World} (h : Turns lo hi a b) : Turns lo hi a b.drew := ⟨h.os, h.tape, h.output, h.size, h.block⟩
theorem Turns.setCell {lo hi : Nat} {a w : World} (h : Turns lo hi a w) {b : Nat} (h1 : lo ≤ b) (h2 : b < hi) (o : Nat) (v : Value) : Turns lo hi a (w.setCell ⟨b, o, none⟩ v) :=
  ⟨h.os, h.tape, h.output, by have := h.size; simp [World.setCell]; omega, fun i hi hn => by rw [Below.heap_setCell _ _ _ _ (by show i ≠ b; omega)]; exact h.block i hi hn⟩
theorem Turns.put5 {lo hi : Nat} {a w : World} (h : Turns lo hi a w) {b : Nat} (h1 : lo ≤ b) (h2 : b < hi) (o : Nat) (y : V) : Turns lo hi a (put5 w b o y) := by
  rw [← put5_eq]
  exact ((((h.setCell h1 h2 _ _).setCell h1 h2 _ _).setCell h1 h2 _ _).setCell h1 h2 _ _).setCell h1 h2 _ _
theorem Turns.same {lo hi : Nat} {a w : World} (h : Turns lo hi a w) {b : Nat} (hb : b < a.heap.size) (hn : ¬ (lo ≤ b ∧ b < hi)) : Same a w b := fun o => World.cell?_of_block (h.block b hb hn)

/-- what AsLent is asked, of a value y that was lent -/
def AsOk (y : V) : Prop := ∀ (v : V) (lo hi : Nat) (Q : Nat → Prop) (w : World), Lent w y lo hi → hi ≤ w.heap.size → LiesIn Q w v → (∀ b, Q b → b < w.heap.size ∧ ¬ (lo ≤ b ∧ b < hi)) → y.t = v.t →
  Calls Tryz.prog 29 #[y.val, v.val] w fun e w' => e = .returned (.bool true) ∧ Turns lo hi w w'

/-- how far AsLentAll has come -/
structure AsSoFar (l : List V) (g : Nat → Nat) (b lo hi j : Nat) (w wr : World) : Prop where
  turns : Turns lo hi w wr
  blk : Blk wr b 42 ((l.length + 3) * 5)
  row : ∀ o, j * 5 ≤ o → wr.cell? ⟨b, o, none⟩ = w.cell? ⟨b, o, none⟩
  rest : ∀ i (h : i < l.length), j ≤ i → Lent wr l[i] (g i) (g (i + 1))

def dead : V := .of (-8) 0 ⟨#[]⟩ none 0 0 []
theorem put5_dead (w : World) (b o : Nat) :
    (((((w.setCell ⟨b, o, none⟩ (.int .i64 (-8))).setCell ⟨b, o + 1, none⟩ (.int .u64 0)).setCell ⟨b, o + 2, none⟩ (.string ⟨#[]⟩)).setCell ⟨b, o + 3, none⟩ (.slice none 0 0)).setCell ⟨b, o + 4, none⟩ (.int .i64 0)) = put5 w b o dead := put5_of w b o (-8) 0 ⟨#[]⟩ none 0 0 []
theorem heap_put5 (w : World) (b o k : Nat) (y : V) (h : k ≠ b) : (put5 w b o y).heap[k]? = w.heap[k]? := by
  rw [← put5_eq]
  rw [Below.heap_setCell _ _ _ _ h, Below.heap_setCell _ _ _ _ h, Below.heap_setCell _ _ _ _ h, Below.heap_setCell _ _ _ _ h, Below.heap_setCell _ _ _ _ h]

theorem g_mono {W : World} {l : List V} {g : Nat → Nat} (h : ∀ i (h : i < l.length), Lent W l[i] (g i) (g (i + 1))) : ∀ j, j ≤ l.length → ∀ i, i ≤ j → g i ≤ g j := by
  intro j
  induction j with
  | zero => intro _ i hi; obtain rfl : i = 0 := by omega
            exact Nat.le_refl _
  | succ j ihj =>
    intro hj i hi
    by_cases e : i = j + 1
    · rw [e]; exact Nat.le_refl _
    · have := (h j (by omega)).rise
      have := ihj (by omega) i (by omega)
      omega

/-- a place is written over, behind the value's own -/
theorem AsSoFar.next {l : List V} {g : Nat → Nat} {b lo hi j : Nat} {w wr w1 : World} (h : AsSoFar l g b lo hi j w wr) (hg : ∀ i (h : i < l.length), Lent w l[i] (g i) (g (i + 1))) (h0 : b < g 0) (hgh : g l.length ≤ hi) (hlo : lo ≤ b) (hhi : hi ≤ w.heap.size) (hj : j < l.length + 3)
    (h1 : Turns (if j < l.length then g j else 0) (if j < l.length then g (j + 1) else 0) wr w1) : AsSoFar l g b lo hi (j + 1) w (put5 w1 b (j * 5) dead) := by
  have hm := g_mono hg
  have hsz := h.turns.size
  have hb : b < hi := by have := hm l.length (Nat.le_refl _) 0 (by omega); omega
  have hw1 : Turns lo hi wr w1 := by
    by_cases e : j < l.length
    · rw [if_pos e, if_pos e] at h1
      refine h1.wide ?_ ?_
      · have := hm j (by omega) 0 (by omega); omega
      · have := hm l.length (Nat.le_refl _) (j + 1) (by omega); omega
    · rw [if_neg e, if_neg e] at h1
      exact ⟨h1.os, h1.tape, h1.output, h1.size, fun i q _ => h1.block i q (by omega)⟩
  have hout : ¬ ((if j < l.length then g j else 0) ≤ b ∧ b < (if j < l.length then g (j + 1) else 0)) := by
    by_cases e : j < l.length
    · rw [if_pos e, if_pos e]
      have := hm j (by omega) 0 (by omega)
      omega
    · rw [if_neg e, if_neg e]; omega
  have hk1 : Blk w1 b 42 ((l.length + 3) * 5) := by
    obtain ⟨cs, q1, q2⟩ := h.blk
    exact ⟨cs, (h1.block b (by omega) hout).trans q1, q2⟩
  refine ⟨(h.turns.trans hw1).put5 hlo hb _ _, put5_blk hk1 _ _, fun o ho => ?_, fun i hi' hij => ?_⟩
  · have e1 : (put5 w1 b (j * 5) dead).cell? ⟨b, o, none⟩ = w1.cell? ⟨b, o, none⟩ := World.cell?_setCells_out b (words dead) _ w1 _ (fun _ _ => .inr (by simp [words]; omega))
    rw [e1, h1.same (by omega) hout o]
    exact h.row o (by omega)
  · refine (h.rest i hi' (by omega)).keep (fun b' o' q1 q2 q3 => ?_)
    have g0 := hm i (by omega) 0 (by omega)
    have g1 := hm l.length (Nat.le_refl _) (i + 1) (by omega)
    rw [heap_put5 _ _ _ _ _ (by omega)]
    refine (h1.block b' (by omega) ?_).trans q3
    rw [if_pos (by omega), if_pos (by omega)]
    have := hm i (by omega) (j + 1) (by omega)
    omega
end Go.Proofs.YtgldcchleoklcaaGreatDoor
namespace Go.Proofs.YtgldcchleoklcaaGreatDoor

open Go.RowKit
set_option linter.unusedVariables false
set_option linter.unusedSimpArgs false

set_option maxRecDepth 100000 in
set_option maxHeartbeats 2000000 in
theorem asLentAll_any (l m : List V) (ih : ∀ x ∈ l, AsOk x) (b : Nat) (g : Nat → Nat) (ma : Option Addr) (mc lo hi : Nat) (Q : Nat → Prop) (w : World) (hlo : lo ≤ b) (hbk : Blk w b 42 ((l.length + 3) * 5)) (hrow : Row w b 0 (l ++ marks l.length)) (h0 : b < g 0) (hgh : g l.length ≤ hi)
    (hg : ∀ i (h : i < l.length), Lent w l[i] (g i) (g (i + 1))) (hhi : hi ≤ w.heap.size) (hm : V.ts l = V.ts m) (hl : l.length ≤ 2199023255552) (hmr : 0 < m.length → ∃ b o, ma = some ⟨b, o, none⟩ ∧ Q b ∧ Row w b o m) (hms : ∀ x ∈ m, LiesIn Q w x) (hQ : ∀ b, Q b → b < w.heap.size ∧ ¬ (lo ≤ b ∧ b < hi)) :
    Calls Tryz.prog 18 #[.slice (some ⟨b, 0, none⟩) l.length (l.length + 3), .slice ma m.length mc] w fun e w' => e = .returned (.bool true) ∧ Turns lo hi w w' := by
  have hlen : m.length = l.length := by simpa [V.ts_length] using congrArg List.length hm.symm
  rw [hlen]
  have HG := hide hg
  have HR := hide hrow
  have HM := hide hm
  have HMR := hide hmr
  have HMS := hide hms
  have HQ := hide hQ
  have IH := hide ih
  have hbw : b < w.heap.size := hbk.lt
  have H0 : Hid (AsSoFar l g b lo hi 0 w w) := ⟨Turns.refl _ _ _, hbk, fun _ _ => rfl, fun i h _ => hg i h⟩
  have hmono := hide (g_mono hg)
  clear hg hrow hm hmr hms hQ ih hbk
  go_enter Tryz.func18, Tryz.ntmps18
  go_wp2
  go_loopw [7, 8] (fun gd i wr => ∃ (j : Nat), i = .int .i64 j ∧ gd = .bool true ∧ j ≤ l.length + 3 ∧ Hid (AsSoFar l g b lo hi j w wr)) (fun _ i _ => l.length + 3 - (intOf i).toNat)
  case atStart => exact ⟨0, rfl, rfl, Nat.zero_le _, H0⟩
  case round =>
    obtain ⟨j, rfl, rfl, hj, HS⟩ := hrel
    have hsz := HS.out.turns.size
    have hf := HS.out.blk.free
    by_cases hj3 : j < l.length + 3
    · have hrw : ∀ o, j * 5 ≤ o → wr.cell? ⟨b, o, none⟩ = w.cell? ⟨b, o, none⟩ := HS.out.row
      have cells : ∀ w1 : World, (∀ lo' hi', Turns lo' hi' wr w1 → ¬ (lo' ≤ b ∧ b < hi') → Blk w1 b 42 ((l.length + 3) * 5)) := fun w1 lo' hi' ht hn => by
        obtain ⟨cs, q1, q2⟩ := HS.out.blk
        exact ⟨cs, (ht.block b (by omega) hn).trans q1, q2⟩
      have HCE := hide cells
      clear cells
      by_cases hjl : j < l.length
      · obtain ⟨x0, x1, x2, x3, x4⟩ := HR.out j (by rw [List.length_append]; omega)
        rw [List.getElem_append_left hjl] at x0 x1 x2 x3 x4
        rw [Nat.zero_add] at x0 x1 x2 x3 x4
        rw [← hrw _ (by omega)] at x0 x1 x2 x3 x4
        obtain ⟨mb, mo, rfl, hqb, mr⟩ := HMR.out (by omega)
        have hqm := HQ.out mb hqb
        obtain ⟨y0, y1, y2, y3, y4⟩ := (mr.same (HS.out.turns.same hqm.1 hqm.2)) j (by omega)
        have hmlt : mb < wr.heap.size := by omega
        have hblt : b < wr.heap.size := by omega
        have hne : mb ≠ b := by
          have := hmono.out l.length (Nat.le_refl _) 0 (by omega)
          omega
        have HX : Hid (Calls Tryz.prog 29 #[.agg #[.int .i64 l[j].k, .int .u64 l[j].n, .string l[j].s, .slice l[j].a l[j].l.length l[j].c, .int .i64 l[j].e], .agg #[.int .i64 m[j].k, .int .u64 m[j].n, .string m[j].s, .slice m[j].a m[j].l.length m[j].c, .int .i64 m[j].e]] wr.drew fun e w1 => e = .returned (.bool true) ∧ Turns (g j) (g (j + 1)) wr w1) := by
          have g1 := hmono.out l.length (Nat.le_refl _) (j + 1) (by omega)
          have g0 := hmono.out j (by omega) 0 (by omega)
          have ht : l[j].t = m[j].t := by
            have e := HM.out
            rw [V.ts_map, V.ts_map] at e
            have e1 : (l.map V.t)[j]? = (m.map V.t)[j]? := by rw [e]
            rw [List.getElem?_map, List.getElem?_map, List.getElem?_eq_getElem hjl, List.getElem?_eq_getElem (by omega)] at e1
            simpa using e1
          refine (IH.out l[j] (List.getElem_mem _) m[j] (g j) (g (j + 1)) Q wr.drew ((HS.out.rest j hjl (Nat.le_refl _)).keep (fun _ _ _ _ q => q)) (by show _ ≤ wr.heap.size; omega) ((HMS.out _ (List.getElem_mem _)).keep (fun b' hb' o' => HS.out.turns.same (HQ.out b' hb').1 (HQ.out b' hb').2 o') (fun _ h => h)) (fun b' hb' => ?_) ht).mono (fun e w1 h => ⟨h.1, h.2.os, h.2.tape, h.2.output, h.2.size, h.2.block⟩)
          have := HQ.out b' hb'
          exact ⟨by show _ < wr.heap.size; omega, by omega⟩
        have HMRR := hide mr
        clear mr hrw
        have hnr : ¬ (g j ≤ b ∧ b < g (j + 1)) := by have := hmono.out j (by omega) 0 (by omega); omega
        have hlt3 : decide ((j : Int) < (l.length : Int) + 3) = true := by simp; omega
        have hmx : Tryz.prog.follows .mixedOrders = true := by kernel_rfl
        rcases (show (((l[j].k : Int) == -7) = false) ∨ ((((l[j].k : Int) == -7) = true) ∧ (((l[j].n : Int) == (j : Int)) = false)) ∨ ((((l[j].k : Int) == -7) = true) ∧ (((l[j].n : Int) == (j : Int)) = true)) by
          cases (l[j].k : Int) == -7 <;> cases (l[j].n : Int) == (j : Int) <;> simp) with q1 | ⟨q1, q2⟩ | ⟨q1, q2⟩
        all_goals
          go_wp2
          go_region_with (go_at_call 29; refine HX.out.mono ?_; rintro e w1 ⟨rfl, ht1⟩; have hk1 := HCE.out w1 _ _ ht1 hnr; obtain ⟨z0, k0⟩ := hk1.some (j * 5) (by omega); obtain ⟨z1, k1⟩ := hk1.some (j * 5 + 1) (by omega); obtain ⟨z2, k2⟩ := hk1.some (j * 5 + 2) (by omega); obtain ⟨z3, k3⟩ := hk1.some (j * 5 + 3) (by omega); obtain ⟨z4, k4⟩ := hk1.some (j * 5 + 4) (by omega); have hf1 := hk1.free; have HK1 := hide hk1; have HT1 := hide ht1; clear hk1 ht1)
          all_goals
            go_wp2
            go_roundw
            case rel =>
              rw [put5_dead]
              exact ⟨j + 1, by go_num, rfl, by omega, HS.out.next HG.out h0 hgh hlo hhi hj3 (by rw [if_pos hjl, if_pos hjl]; exact HT1.out)⟩
            case measure => simp [intOf]; omega
      · have e3 : j = l.length ∨ j = l.length + 1 ∨ j = l.length + 2 := by omega
        have hmrk : ((l ++ marks l.length)[j]'(by simp [marks]; omega)) = markAt j := by
          rw [List.getElem_append_right (by omega)]
          rcases e3 with rfl | rfl | rfl
          · simp [marks]
          · simp [marks, show l.length + 1 - l.length = 1 by omega]
          · simp [marks, show l.length + 2 - l.length = 2 by omega]
        obtain ⟨x0, x1, x2, x3, x4⟩ := HR.out j (by simp [marks]; omega)
        rw [hmrk, Nat.zero_add, ← hrw _ (by omega)] at x0 x1 x2 x3 x4
        have x0' : wr.cell? ⟨b, j * 5, none⟩ = some (.int .i64 (-7)) := x0
        have x1' : wr.cell? ⟨b, j * 5 + 1, none⟩ = some (.int .u64 (j : Int)) := x1
        clear x0 x1 hrw hmrk e3
        have hblt : b < wr.heap.size := by omega
        have hnl : decide ((j : Int) < (l.length : Int)) = false := by simp; omega
        go_wp2
        go_roundw
        case rel =>
          rw [put5_dead]
          exact ⟨j + 1, by go_num, rfl, by omega, HS.out.next HG.out h0 hgh hlo hhi hj3 (by rw [if_neg hjl, if_neg hjl]; exact Turns.refl _ _ _)⟩
        case measure => simp [intOf]; omega
    · obtain rfl : j = l.length + 3 := by omega
      go_wp2
      go_ret
      exact ⟨rfl, HS.out.turns⟩
end Go.Proofs.YtgldcchleoklcaaGreatDoor
namespace Go.Proofs.YtgldcchleoklcaaGreatDoor

open Go.RowKit
set_option linter.unusedVariables false
set_option linter.unusedSimpArgs false

set_option maxRecDepth 100000 in
set_option maxHeartbeats 1000000 in
theorem asLent_any : ∀ y, AsOk y := by
  refine V.ind ?_
  intro k n s a c e l ih v lo hi Q w hy hhi hv hQ ht
  obtain ⟨k', n', s', a', c', e', m, rfl⟩ := V.ex v
  rw [V.t_of, V.t_of] at ht
  obtain ⟨rfl, rfl, rfl, _, _, rfl, htl⟩ := V.of_inj ht
  clear ht
  have hr := hy.rise
  obtain ⟨b, h1, rfl, rfl, ok, h5, h6, g, h7, h8, h9⟩ := (Lent.iff _ _ _ _ _ _ _ _ _ _).1 hy
  have hmo := g_mono h9
  have hg0 := hmo l.length (Nat.le_refl _) 0 (by omega)
  have HF : Hid (∀ w1, Below w.heap.size w w1 → Calls Tryz.prog 18 #[.slice (some ⟨b, 0, none⟩) l.length (l.length + 3), .slice a' m.length c'] w1 fun e w' => e = .returned (.bool true) ∧ Turns lo hi w1 w') := by
    intro w1 hb
    have hsz := hb.size
    have hv1 : LiesIn Q w1 (V.of k n s a' c' e m) := hv.keep (fun b' hb' o' => hb.cell (p := ⟨b', o', none⟩) (hQ b' hb').1) (fun _ h => h)
    refine asLentAll_any l m ih b g a' c' lo hi Q w1 h1 (h5.below hb (by omega)) (h6.below hb (by omega)) h7 h8 (fun i hi' => (h9 i hi').keep (fun b' o' q1 q2 q3 => (hb.block b' ?_).trans q3)) (by omega) htl (by have := ok.l; have := ok.c; omega) hv1.row hv1.sub (fun b' hb' => ?_)
    · have := hmo l.length (Nat.le_refl _) (i + 1) (by omega)
      omega
    · have := hQ b' hb'
      exact ⟨by omega, this.2⟩
  clear hv hy ih h5 h6 h9
  rw [V.val_of, V.val_of]
  go_enter Tryz.func29, Tryz.ntmps29
  go_wp2_with fail
  refine Calls.mono (HF.out _ (bel2 (Below.refl _ _) (Nat.le_refl _) _ _)) ?_
  rintro e' w1 ⟨rfl, ht1⟩
  go_wp2
  go_ret
  refine ⟨rfl, ?_⟩
  have hb2 := bel2 (Below.refl w.heap.size w) (Nat.le_refl _) (Obj.cells #[.int .i64 k, .int .u64 n, .string s, .slice (some ⟨b, 0, none⟩) l.length (l.length + 3), .int .i64 e] 42) (Obj.cells #[.int .i64 k, .int .u64 n, .string s, .slice a' m.length c', .int .i64 e] 42)
  exact (Turns.of_below hb2).trans ht1
end Go.Proofs.YtgldcchleoklcaaGreatDoor
