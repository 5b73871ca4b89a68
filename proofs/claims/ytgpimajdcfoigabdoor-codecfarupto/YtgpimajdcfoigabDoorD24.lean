import Derived.Test.YtgpimajdcfoigabDoorD23
import Derived.Test.YtgpimajdcfoigabDoorD16

/- codec's reader: data of the plain layouts; value. codec's reader: value, out of data. -/
namespace Go.Proofs.YtgpimajdcfoigabDoor
open Go.RowKit
set_option linter.unusedVariables false
set_option linter.unusedSimpArgs false
/-- a value that came out -/
def GotV (R : Nat) (a : Option Addr) (n cap p fin : Nat) (sz : Int) (w : World) (tq : T × Nat) (e : Ending) (w' : World) : Prop :=
  ∃ y : V, e = .returned (.agg #[.int .i64 y.k, .int .u64 y.n, .string y.s, .slice y.a y.l.length y.c, .int .i64 y.e]) ∧ Hid (y.t = tq.1 ∧ LiesIn (fun b => w.heap.size ≤ b ∧ b < w'.heap.size) w' y ∧ RB w' R a n cap tq.2 fin sz ∧ p ≤ tq.2 ∧ tq.2 ≤ fin)
/-- what data is asked of a constructor, in a depth -/
def DatC (f k c : Nat) : Prop := ∀ (d R : Nat) (a : Option Addr) (n cap place p fin : Nat) (sz : Int) (l : List Nat) (w : World), d + f = 33 → Src w R a n cap l → RB w R a n cap p fin sz → p ≤ fin → fin ≤ n → place ≤ 281474976710656 →
  Calls Tryd.prog 26 #[.pointer (some ⟨R, 0, none⟩), .int .i64 (k : Int), .int .u8 (c : Int), .int .i64 (place : Int), .int .i64 (d : Int)] w (Outc (rdat badB twiceW l f k c place p fin sz) R w (GotV R a n cap p fin sz w))
theorem lies_leaf (Q : Nat → Prop) (w : World) (k n : Int) (s : ByteArray) (hk : 0 ≤ k ∧ k ≤ 24) (hn : 0 ≤ n ∧ n ≤ 18446744073709551615) (hs : s.size ≤ 281474976710656) : LiesIn Q w (V.of k n s none 0 0 []) :=
  .mk ⟨by omega, hn, hs, by decide, by simp, by simp⟩ (by simp) (by simp)
theorem Gro.over {g b : Nat} {A W1 : World} (h : Gro g A W1) (hb : A.heap.size ≤ b) (o : Nat) (u : Value) : Gro g A (W1.setCell ⟨b, o, none⟩ u) :=
  ⟨h.os, h.tape, h.output, by simpa using h.size, fun q hq hne => (Below.heap_setCell _ _ _ _ (by show q ≠ b; omega)).trans (h.block q hq hne)⟩
theorem RB.over {W1 : World} {R : Nat} {a : Option Addr} {n cap p fin : Nat} {sz : Int} (h : RB W1 R a n cap p fin sz) {b : Nat} (hb : R ≠ b) (o : Nat) (u : Value) : RB (W1.setCell ⟨b, o, none⟩ u) R a n cap p fin sz := (Below.heap_setCell _ _ _ _ (by exact hb)).trans h
theorem RB.alloc {W1 : World} {R : Nat} {a : Option Addr} {n cap p fin : Nat} {sz : Int} (h : RB W1 R a n cap p fin sz) (o : Obj) : RB (W1.alloc o) R a n cap p fin sz := (Below.heap_alloc _ _ _ h.cells.2.2.2.2.2.2.2).trans h
theorem Src.alloc {w : World} {R : Nat} {a : Option Addr} {n cap : Nat} {l : List Nat} (h : Src w R a n cap l) (o : Obj) : Src (w.alloc o) R a n cap l := h.gro ((Gro.refl R w).alloc o)
/-- two boxes, and what they hold later on -/
theorem two_boxes {w W1 : World} {R : Nat} {A B : Array Value} {t t' : TypeId} (hlt : R < w.heap.size) (hg : Gro R ((w.alloc (.cells A t)).alloc (.cells B t')) W1) :
    (∀ o, W1.cell? ⟨w.heap.size, o, none⟩ = A[o]?) ∧ (∀ o, W1.cell? ⟨w.heap.size + 1, o, none⟩ = B[o]?) ∧ (∀ o, W1.frozen? ⟨w.heap.size, o, none⟩ = false) ∧ (∀ o, W1.frozen? ⟨w.heap.size + 1, o, none⟩ = false) ∧ w.heap.size + 1 < W1.heap.size := by
  have e1 : ((w.alloc (.cells A t)).alloc (.cells B t')).heap[w.heap.size]? = some (.cells A t) := by
    rw [Below.heap_alloc _ _ _ (by simp)]; exact World.alloc_heap_new _ _
  have e2 : ((w.alloc (.cells A t)).alloc (.cells B t')).heap[w.heap.size + 1]? = some (.cells B t') := heap_at1 _ _ _
  have f1 := (hg.block w.heap.size (by simp; omega) (by simp; omega)).trans e1
  have f2 := (hg.block (w.heap.size + 1) (by simp) (by simp; omega)).trans e2
  have := hg.size
  simp only [World.size_alloc] at this
  refine ⟨fun o => ?_, fun o => ?_, fun o => ?_, fun o => ?_, by omega⟩ <;> simp [World.cell?, World.frozen?, f1, f2]
set_option maxRecDepth 100000 in
set_option maxHeartbeats 1000000 in
theorem dat_none (f k c : Nat) (hf : 0 < f) (hc : c < 256) (hk : k ≤ 24) (hlay : c / 16 = 4) : DatC f k c := by
  intro d R a n cap place p fin sz l w hd hs hr hp hfin hpl
  obtain ⟨f, rfl⟩ : ∃ g, f = g + 1 := ⟨f - 1, by omega⟩
  have hrd : rdat badB twiceW l (f + 1) k c place p fin sz = .ok (T.of k (if c = 65 then 1 else 0) e0 0 [], p) := by
    rw [rdat, if_neg (by omega), if_pos hlay]
  rw [hrd]
  clear hrd
  have HLAY : Hid (∀ W1, Calls Tryd.prog 33 #[.int .u8 (c : Int)] W1 fun e w' => e = .returned (.int .u8 4) ∧ W1 = w') := fun W1 => by
    have := layout_any c hc W1
    rw [hlay] at this
    exact this
  have hlt := hr.cells.2.2.2.2.2.2.2
  have HR := hide hr
  clear hr hs
  have HG : Hid (∀ A B, Gro R w ((w.alloc A).alloc B)) := fun A B => ((Gro.refl R w).alloc A).alloc B
  have HR2 : Hid (∀ A B, RB ((w.alloc A).alloc B) R a n cap p fin sz) := fun A B => (HR.out.alloc A).alloc B
  by_cases h65 : c = 65
  · subst h65
    clear hlay
    go_enter Tryd.func26, Tryd.ntmps26
    go_wp2_with fail
    refine Calls.mono (HLAY.out _) ?_
    rintro e1 w1 ⟨rfl, rfl⟩
    go_wp2
    refine bodyPost_ret (v := .agg #[.int .i64 (k : Int), .int .u64 1, .string ⟨#[]⟩, .slice none 0 0, .int .i64 0]) (by simp [results, Tryd.results26, go_sem]) rfl ⟨⟨.of (k : Int) 1 e0 none 0 0 [], by rw [V.l_of]; rfl, ⟨by rw [V.t_of]; rfl, lies_leaf _ _ _ _ _ (by omega) (by omega) (by decide), HR2.out _ _, Nat.le_refl _, hp⟩⟩, HG.out _ _⟩
  · have hcb : ((c : Int) == 65) = false := by rw [beq_eq_false_iff_ne]; omega
    have HC65 := hide h65
    clear hlay h65
    go_enter Tryd.func26, Tryd.ntmps26
    go_wp2_with fail
    refine Calls.mono (HLAY.out _) ?_
    rintro e1 w1 ⟨rfl, rfl⟩
    go_wp2
    try rw [if_neg HC65.out]
    refine bodyPost_ret (v := .agg #[.int .i64 (k : Int), .int .u64 0, .string ⟨#[]⟩, .slice none 0 0, .int .i64 0]) (by simp [results, Tryd.results26, go_sem]) rfl ⟨⟨.of (k : Int) 0 e0 none 0 0 [], by rw [V.l_of]; rfl, ⟨by rw [V.t_of]; rfl, lies_leaf _ _ _ _ _ (by omega) (by omega) (by decide), HR2.out _ _, Nat.le_refl _, hp⟩⟩, HG.out _ _⟩
set_option maxRecDepth 100000 in
set_option maxHeartbeats 2000000 in
theorem dat_num (f k c : Nat) (hf : 0 < f) (hc : c < 256) (hk : k ≤ 24) (hlay : c / 16 = 5 ∨ c / 16 = 6 ∨ c / 16 = 7 ∨ c / 16 = 8) : DatC f k c := by
  intro d R a n cap place p fin sz l w hd hs hr hp hfin hpl
  obtain ⟨f, rfl⟩ : ∃ g, f = g + 1 := ⟨f - 1, by omega⟩
  have hrd : rdat badB twiceW l (f + 1) k c place p fin sz = (match rnumber l k (nwid c) p fin sz with
      | .error x => .error x
      | .ok (n, q) => .ok (T.of k n e0 0 [], q)) := by
    rw [rdat, if_neg (by omega), if_neg (by omega), if_neg (by omega), if_neg (by omega), if_neg (by omega), if_neg (by omega)]
    rfl
  rw [hrd]
  clear hrd
  have hnw : nwid c = 1 ∨ nwid c = 2 ∨ nwid c = 4 ∨ nwid c = 8 := by unfold nwid; split <;> (try split) <;> (try split) <;> omega
  have HNW : Hid (∀ W1, Calls Tryd.prog 37 #[.int .u8 (c : Int)] W1 fun e w' => e = .returned (.int .i64 ((nwid c : Nat) : Int)) ∧ W1 = w') := fun W1 => numberWidth_any c (by omega) (by omega) W1
  have HNO : Hid (∀ W1, Src W1 R a n cap l → RB W1 R a n cap p fin sz → Calls Tryd.prog 44 #[.pointer (some ⟨R, 0, none⟩), .int .i64 (k : Int), .int .i64 ((nwid c : Nat) : Int)] W1 (Outc (rnumber l k (nwid c) p fin sz) R W1 (fun mq e w' => e = .returned (.int .u64 (mq.1 : Int)) ∧ RB w' R a n cap mq.2 fin sz ∧ mq.2 ≤ fin))) := fun W1 h1 h2 => numberOf_any k R a n cap p fin (nwid c) sz l W1 h1 h2 hp hfin hnw hk
  have hqb : ∀ mq, rnumber l k (nwid c) p fin sz = .ok mq → p ≤ mq.2 ∧ mq.1 ≤ 18446744073709551615 := fun mq hm => by
    unfold rnumber at hm
    cases hrn : rnum l p fin sz (nwid c) with
    | error x => rw [hrn] at hm; cases hm
    | ok m =>
      rw [hrn] at hm
      simp only at hm
      have hmb : m < 256 ^ nwid c := by
        unfold rnum at hrn
        split at hrn
        · cases hrn
          exact getN_bound l p (nwid c) hs.rd.2.1 (by have := hs.rd.1; omega)
        · cases hrn
      have h8 : m < 18446744073709551616 := by
        have : (256 : Nat) ^ nwid c ≤ 256 ^ 8 := Nat.pow_le_pow_right (by omega) (by omega)
        have h8 : (256 : Nat) ^ 8 = 18446744073709551616 := by decide
        omega
      split at hm
      · cases hm
        refine ⟨by show p ≤ p + nwid c; omega, ?_⟩
        show sext (nwid c) m ≤ _
        have h1 : (256 : Nat) ^ 1 = 256 ∧ (256 : Nat) ^ 2 = 65536 ∧ (256 : Nat) ^ 4 = 4294967296 := by decide
        rcases hnw with h | h | h | h
        · rw [h] at hmb ⊢; unfold sext; rw [if_pos rfl]; split <;> omega
        · rw [h] at hmb ⊢; unfold sext; rw [if_neg (by decide), if_pos rfl]; split <;> omega
        · rw [h] at hmb ⊢; unfold sext; rw [if_neg (by decide), if_neg (by decide), if_pos rfl]; split <;> omega
        · rw [h] at hmb ⊢; unfold sext; rw [if_neg (by decide), if_neg (by decide), if_neg (by decide)]; omega
      · split at hm
        · cases hm
          exact ⟨by show p ≤ p + nwid c; omega, by show m ≤ _; omega⟩
        · cases hm
  generalize rnumber l k (nwid c) p fin sz = rn at HNO hqb ⊢
  generalize nwid c = nw at HNW HNO
  have hcs : ∃ q : Nat, c / 16 = q ∧ (q = 5 ∨ q = 6 ∨ q = 7 ∨ q = 8) := ⟨_, rfl, hlay⟩
  obtain ⟨q, hq, hq4⟩ := hcs
  have HLAY0 : Hid (∀ W1, Calls Tryd.prog 33 #[.int .u8 (c : Int)] W1 fun e w' => e = .returned (.int .u8 (q : Int)) ∧ W1 = w') := fun W1 => by
    have := layout_any c hc W1
    rw [hq] at this
    exact this
  have hlt := hr.cells.2.2.2.2.2.2.2
  have HR := hide hr
  have HS := hide hs
  clear hr hs hlay hq hnw
  cases rn with
  | error x =>
    clear hqb
    rcases hq4 with rfl | rfl | rfl | rfl
    all_goals
      go_enter Tryd.func26, Tryd.ntmps26
      go_wp2_with fail
      refine Calls.mono (HLAY0.out _) ?_
      rintro e1 w1 ⟨rfl, rfl⟩
      go_wp2_with fail
      refine Calls.mono (HNW.out _) ?_
      rintro e1 w1 ⟨rfl, rfl⟩
      go_wp2_with fail
      refine Calls.mono (HNO.out _ ((HS.out.alloc _).alloc _) ((HR.out.alloc _).alloc _)) ?_
      rintro e2 w2 ⟨rfl, hg⟩
      exact ⟨rfl, rfl, (((Gro.refl R w).alloc _).alloc _).trans hg⟩
  | ok mq =>
    have hqb1 := hqb mq rfl
    clear hqb
    rcases hq4 with rfl | rfl | rfl | rfl
    all_goals
      go_enter Tryd.func26, Tryd.ntmps26
      go_wp2_with fail
      refine Calls.mono (HLAY0.out _) ?_
      rintro e1 w1 ⟨rfl, rfl⟩
      go_wp2_with fail
      refine Calls.mono (HNW.out _) ?_
      rintro e1 w1 ⟨rfl, rfl⟩
      go_wp2_with fail
      refine Calls.mono (HNO.out _ ((HS.out.alloc _).alloc _) ((HR.out.alloc _).alloc _)) ?_
      rintro e2 w2 ⟨⟨rfl, hr2, hq2⟩, hg⟩
      obtain ⟨g1, g2, g3, g4, hz⟩ := two_boxes hlt hg
      have HGA : Hid (Gro R w w2) := (((Gro.refl R w).alloc _).alloc _).trans hg
      have HR2 := hide hr2
      have k0 := g1 0
      have k1 := g1 1
      have k2 := g1 2
      have k3 := g1 3
      have k4 := g1 4
      have j0 := g2 0
      have j1 := g2 1
      have j2 := g2 2
      have j3 := g2 3
      have j4 := g2 4
      simp only [List.getElem?_toArray, List.getElem?_cons_zero, List.getElem?_cons_succ] at k0 k1 k2 k3 k4 j0 j1 j2 j3 j4
      clear hg hr2 g1 g2
      go_wp2
      refine bodyPost_ret (v := .agg #[.int .i64 (k : Int), .int .u64 (mq.1 : Int), .string ⟨#[]⟩, .slice none 0 0, .int .i64 0]) (by simp [results, Tryd.results26, go_sem, k0, k1, k2, k3, k4]) rfl ⟨⟨.of (k : Int) (mq.1 : Int) e0 none 0 0 [], by rw [V.l_of]; rfl, ⟨by rw [V.t_of]; rfl, lies_leaf _ _ _ _ _ (by omega) (by omega) (by decide), ?_, hqb1.1, hq2⟩⟩, ?_⟩
      · exact RB.over (RB.over (RB.over (RB.over (RB.over (RB.over HR2.out (by omega) _ _) (by omega) _ _) (by omega) _ _) (by omega) _ _) (by omega) _ _) (by omega) _ _
      · exact Gro.over (Gro.over (Gro.over (Gro.over (Gro.over (Gro.over HGA.out (by omega) _ _) (by omega) _ _) (by omega) _ _) (by omega) _ _) (by omega) _ _) (by omega) _ _
end Go.Proofs.YtgpimajdcfoigabDoor
namespace Go.Proofs.YtgpimajdcfoigabDoor
open Go.RowKit
set_option linter.unusedVariables false
set_option linter.unusedSimpArgs false
theorem cell_over {W1 : World} {b b' o o' : Nat} (u : Value) (h : b ≠ b') : (W1.setCell ⟨b', o', none⟩ u).cell? ⟨b, o, none⟩ = W1.cell? ⟨b, o, none⟩ := World.cell?_of_block (Below.heap_setCell _ _ _ _ (by exact h))
/-- what value is asked, in a depth -/
def ValC (f : Nat) (R : Nat) (a : Option Addr) (n cap p fin : Nat) (sz : Int) (l : List Nat) (w : World) : Prop := ∀ d : Nat, d + f = 33 →
  Calls Tryd.prog 17 #[.pointer (some ⟨R, 0, none⟩), .int .i64 (d : Int)] w (Outc (rval badB twiceW l f p fin sz) R w (GotV R a n cap p fin sz w))
theorem GotV.later {R : Nat} {a : Option Addr} {n cap p p' fin : Nat} {sz : Int} {w w1 w' : World} {tq : T × Nat} {e : Ending} (h : GotV R a n cap p' fin sz w1 tq e w') (hp : p ≤ p') (hs : w.heap.size ≤ w1.heap.size) : GotV R a n cap p fin sz w tq e w' := by
  obtain ⟨y, he, HY⟩ := h
  obtain ⟨h1, h2, h3, h4, h5⟩ := HY.out
  exact ⟨y, he, h1, h2.keep (fun _ _ _ => rfl) (fun b hb => ⟨by omega, hb.2⟩), h3, by omega, h5⟩
set_option maxRecDepth 100000 in
set_option maxHeartbeats 1000000 in
theorem val_of (f : Nat) (R : Nat) (a : Option Addr) (n cap p fin : Nat) (sz : Int) (l : List Nat) (w : World) (hs : Src w R a n cap l) (hr : RB w R a n cap p fin sz) (hp : p ≤ fin) (hfin : fin ≤ n)
    (hD : ∀ c k, rnum l p fin sz 1 = .ok c → kindC c = some k → f ≠ 0 → DatC f k c) : ValC f R a n cap p fin sz l w := by
  intro d hd
  obtain ⟨c0, c1, c2, c3, f1, _, _, hlt⟩ := hr.cells
  have hn := hs.small
  have HNU : Hid (∀ W1, Src W1 R a n cap l → RB W1 R a n cap p fin sz → Calls Tryd.prog 24 #[.pointer (some ⟨R, 0, none⟩), .int .i64 1] W1 (Outc (rnum l p fin sz 1) R W1 (fun m e w' => e = .returned (.int .u64 (m : Int)) ∧ RB w' R a n cap (p + 1) fin sz ∧ p + 1 ≤ fin))) := fun W1 h1 h2 => number_any R a n cap p fin 1 sz l W1 h1 h2 hp hfin (by omega) (by omega)
  have HS := hide hs
  have HR := hide hr
  have hmb : ∀ m, rnum l p fin sz 1 = .ok m → m < 256 := fun m hm => by
    unfold rnum at hm
    split at hm
    · cases hm
      exact getN_bound l p 1 hs.rd.2.1 (by have := hs.rd.1; omega)
    · cases hm
  unfold rval rvalG
  cases hrn : rnum l p fin sz 1 with
  | error x =>
    rw [hrn] at HNU
    clear hr hs hmb hrn hD
    go_enter Tryd.func17, Tryd.ntmps17
    go_wp2_with fail
    refine Calls.mono (HNU.out _ (HS.out.alloc _) (HR.out.alloc _)) ?_
    rintro e1 w1 ⟨rfl, hg⟩
    exact ⟨rfl, rfl, ((Gro.refl R w).alloc _).trans hg⟩
  | ok c =>
    rw [hrn] at HNU
    have hc := hmb c hrn
    have HKI : Hid (∀ W1, Gro R w W1 → Calls Tryd.prog 25 #[.int .u8 (c : Int)] W1 fun e w' => e = .returned (kindR c) ∧ Below W1.heap.size W1 w') := fun W1 hW => kindOf_any c hc W1 (HS.out.gro hW).tab
    have hD' := hD c
    clear hr hs hmb hD
    simp only
    cases hkc : kindC c with
    | none =>
      simp only [kindR, hkc] at HKI
      clear hD' hkc hrn
      simp only
      go_enter Tryd.func17, Tryd.ntmps17
      go_wp2_with fail
      refine Calls.mono (HNU.out _ (HS.out.alloc _) (HR.out.alloc _)) ?_
      rintro e1 w1 ⟨⟨rfl, hr1, hq⟩, hg⟩
      have HG1 : Hid (Gro R w w1) := ((Gro.refl R w).alloc _).trans hg
      clear hg hr1
      go_wp2_with fail
      refine Calls.mono (HKI.out _ HG1.out) ?_
      rintro e2 w2 ⟨rfl, hb2⟩
      go_wp2
      exact ⟨rfl, rfl, rfl, HG1.out.trans (Gro.of_below hb2)⟩
    | some k =>
      simp only [kindR, hkc] at HKI
      simp only
      by_cases hf : f = 0
      · subst hf
        rw [if_pos rfl]
        have hdd : d = 33 := by omega
        subst hdd
        clear hD' hkc hrn
        go_enter Tryd.func17, Tryd.ntmps17
        go_wp2_with fail
        refine Calls.mono (HNU.out _ (HS.out.alloc _) (HR.out.alloc _)) ?_
        rintro e1 w1 ⟨⟨rfl, hr1, hq⟩, hg⟩
        have HG1 : Hid (Gro R w w1) := ((Gro.refl R w).alloc _).trans hg
        clear hg hr1
        go_wp2_with fail
        refine Calls.mono (HKI.out _ HG1.out) ?_
        rintro e2 w2 ⟨rfl, hb2⟩
        go_wp2
        exact ⟨rfl, rfl, rfl, HG1.out.trans (Gro.of_below hb2)⟩
      · rw [if_neg hf]
        have hd32 : (d : Int) ≤ 32 := by omega
        have HD : Hid (∀ W1, Gro R w W1 → RB W1 R a n cap (p + 1) fin sz → p + 1 ≤ fin → Calls Tryd.prog 26 #[.pointer (some ⟨R, 0, none⟩), .int .i64 (k : Int), .int .u8 (c : Int), .int .i64 (p : Int), .int .i64 (d : Int)] W1 (Outc (rdat badB twiceW l f k c p (p + 1) fin sz) R W1 (GotV R a n cap (p + 1) fin sz W1))) := fun W1 hW h2 h3 => hD' k hrn hkc hf d R a n cap p (p + 1) fin sz l W1 hd (HS.out.gro hW) h2 h3 hfin (by omega)
        clear hD' hkc hrn
        generalize rdat badB twiceW l f k c p (p + 1) fin sz = rd at HD ⊢
        cases rd with
        | error x =>
          go_enter Tryd.func17, Tryd.ntmps17
          go_wp2_with fail
          refine Calls.mono (HNU.out _ (HS.out.alloc _) (HR.out.alloc _)) ?_
          rintro e1 w1 ⟨⟨rfl, hr1, hq⟩, hg⟩
          have HG1 : Hid (Gro R w w1) := ((Gro.refl R w).alloc _).trans hg
          have HR1 := hide hr1
          clear hg hr1
          go_wp2_with fail
          refine Calls.mono (HKI.out _ HG1.out) ?_
          rintro e2 w2 ⟨rfl, hb2⟩
          have HG2 : Hid (Gro R w w2) := HG1.out.trans (Gro.of_below hb2)
          have HR2 : Hid (RB w2 R a n cap (p + 1) fin sz) := HR1.out.keep hb2
          clear hb2
          go_wp2_with fail
          refine Calls.mono (HD.out _ HG2.out HR2.out hq) ?_
          rintro e3 w3 ⟨rfl, hg3⟩
          exact ⟨rfl, rfl, HG2.out.trans hg3⟩
        | ok tq =>
          go_enter Tryd.func17, Tryd.ntmps17
          go_wp2_with fail
          refine Calls.mono (HNU.out _ (HS.out.alloc _) (HR.out.alloc _)) ?_
          rintro e1 w1 ⟨⟨rfl, hr1, hq⟩, hg⟩
          have HGB : Hid (Gro R (w.alloc (Obj.cells #[.int .i64 0, .int .u64 0, .string ⟨#[]⟩, .slice none 0 0, .int .i64 0] 25)) w1) := hg
          have HG1 : Hid (Gro R w w1) := ((Gro.refl R w).alloc _).trans hg
          have HR1 := hide hr1
          clear hg hr1
          go_wp2_with fail
          refine Calls.mono (HKI.out _ HG1.out) ?_
          rintro e2 w2 ⟨rfl, hb2⟩
          have HG2 : Hid (Gro R w w2) := HG1.out.trans (Gro.of_below hb2)
          have HGB2 : Hid (Gro R (w.alloc (Obj.cells #[.int .i64 0, .int .u64 0, .string ⟨#[]⟩, .slice none 0 0, .int .i64 0] 25)) w2) := HGB.out.trans (Gro.of_below hb2)
          have HR2 : Hid (RB w2 R a n cap (p + 1) fin sz) := HR1.out.keep hb2
          clear hb2
          go_wp2_with fail
          refine Calls.mono (HD.out _ HG2.out HR2.out hq) ?_
          rintro e3 w3 ⟨⟨y, rfl, HY⟩, hg3⟩
          have hgb := HGB2.out.trans hg3
          have hbx : w3.heap[w.heap.size]? = some (.cells #[.int .i64 0, .int .u64 0, .string ⟨#[]⟩, .slice none 0 0, .int .i64 0] 25) := (hgb.block _ (by simp) (by simp; omega)).trans (World.alloc_heap_new _ _)
          have k0 : w3.cell? ⟨w.heap.size, 0, none⟩ = some (.int .i64 0) := by simp [World.cell?, hbx]
          have k1 : w3.cell? ⟨w.heap.size, 1, none⟩ = some (.int .u64 0) := by simp [World.cell?, hbx]
          have k2 : w3.cell? ⟨w.heap.size, 2, none⟩ = some (.string ⟨#[]⟩) := by simp [World.cell?, hbx]
          have k3 : w3.cell? ⟨w.heap.size, 3, none⟩ = some (.slice none 0 0) := by simp [World.cell?, hbx]
          have k4 : w3.cell? ⟨w.heap.size, 4, none⟩ = some (.int .i64 0) := by simp [World.cell?, hbx]
          have g3 : ∀ o, w3.frozen? ⟨w.heap.size, o, none⟩ = false := fun o => by simp [World.frozen?, hbx]
          have hz3 : w.heap.size < w3.heap.size := (Array.getElem?_eq_some_iff.1 hbx).1
          have HG3 : Hid (Gro R w w3) := HG2.out.trans hg3
          have hs2 : w.heap.size < w2.heap.size := by have := HGB2.out.size; simp at this; omega
          clear hgb hbx hg3
          go_wp2
          obtain ⟨h1, h2, h3, h4, h5⟩ := HY.out
          refine bodyPost_ret (v := .agg #[.int .i64 y.k, .int .u64 y.n, .string y.s, .slice y.a y.l.length y.c, .int .i64 y.e]) (by simp [results, Tryd.results17, go_sem, k0, k1, k2, k3, k4]) rfl ⟨⟨y, rfl, ⟨h1, h2.keep (fun b hb o => ?_) (fun b hb => ?_), ?_, by omega, h5⟩⟩, ?_⟩
          · have hbn : b ≠ w.heap.size := by omega
            exact (cell_over _ hbn).trans ((cell_over _ hbn).trans ((cell_over _ hbn).trans ((cell_over _ hbn).trans (cell_over _ hbn))))
          · simp; omega
          · exact RB.over (RB.over (RB.over (RB.over (RB.over h3 (by omega) _ _) (by omega) _ _) (by omega) _ _) (by omega) _ _) (by omega) _ _
          · exact Gro.over (Gro.over (Gro.over (Gro.over (Gro.over HG3.out (by omega) _ _) (by omega) _ _) (by omega) _ _) (by omega) _ _) (by omega) _ _
end Go.Proofs.YtgpimajdcfoigabDoor
