/- The document's Seal: a frame that can be written. -/
import Derived.Test.YtboacpneoblklaaFRSeal
namespace Go.Proofs.Ytboacpneoblklaa
open Go.RowKit Go.Deep
set_option linter.unusedVariables false
set_option linter.unusedSimpArgs false

theorem own_below5 {w w' : World} {B n : Nat} {t : TypeId} {v : Value} {xs : List Value} (h : w.ownsRow B t 1 v n xs) (hb : Below w.heap.size w w') : w'.ownsRow B t 1 v n xs := by
  refine ⟨h.1, ?_⟩
  rcases h.2 with hn | ⟨g, cap, cur, hv, hbg, hg, rest⟩
  · exact .inl hn
  · exact .inr ⟨g, cap, cur, hv, hbg, (hb.block g (Array.getElem?_eq_some_iff.1 hg).1).trans hg, rest⟩

theorem grown_row {w w' : World} {B : Nat} {v : Value} {n : Nat} {l : List Nat} (h : w.ownsRow B 5 1 v n (l.map byteV)) {w0 : World} (hb : Below B w0 w) (hB : B ≤ w.heap.size) (hg : w.grownBy w' v.ownBlock) : Below B w0 w' ∧ B ≤ w'.heap.size :=
  ⟨hb.grown hg hB (fun g e => (h.lt g e).1), Nat.le_trans hB hg.size⟩

set_option maxRecDepth 100000 in
set_option maxHeartbeats 4000000 in
theorem refseal_yes (ty ch : Nat) (a : Option Addr) (n c : Nat) (b : Option Addr) (m d : Nat) (ext body : List Nat) (w : World) (ha : Rd w a n ext) (hb : Rd w b m body) (hna : a = none → c = 0) (hnb : b = none → d = 0) (hE : sealE ty ch n m = 0) :
    Calls Try.prog 12 #[frV ty ch a n c b m d] w fun e w' => ∃ v, e = .returned (.tuple #[v, .int .i64 0]) ∧ w'.ownsRow w.heap.size 5 1 v (8 + n + m) ((sealB ty ch ext body).map byteV) ∧ Below w.heap.size w w' := by
  obtain ⟨htc, hn4, hn, hm⟩ := sealE_ok hE
  have htc' : ty ≤ 1 ∧ ch ≤ 65535 := by omega
  have hty : ty = 0 ∨ ty = 1 := by omega
  clear hE
  unfold frV
  have HA := hide ha
  have HB := hide hb
  have HNA := hide hna
  have HNB := hide hnb
  have hla := ha.1
  have hlb := hb.1
  clear ha hb hna hnb
  have hne : ((n : Int) % 4 != 0) = false := by simp; omega
  have hq : (8 + (n : Int)) / 4 = (((8 + n) / 4 : Nat) : Int) := by omega
  have hq2 : (8 + n) / 4 ≤ 255 := by omega
  have hc0 : ¬ (ch : Int) < 0 := by omega
  have hc1 : ¬ (65536 : Int) ≤ (ch : Int) := by omega
  obtain ⟨q, hqq⟩ : ∃ q, q = (8 + n) / 4 := ⟨_, rfl⟩
  rw [← hqq] at hq hq2
  have HQ := hide hqq
  clear hqq hn4
  have HW1 : Hid (∀ W, Calls Try.prog 23 #[.int .i64 (8 + (n : Int) + (m : Int)), .int .i64 4] W fun e w' => ∃ v, e = .returned v ∧ w'.ownsRow W.heap.size 5 1 v 4 ((digs (8 + n + m) 4).map byteV) ∧ Below W.heap.size W w') := fun W => by
    have := word_any (8 + n + m) 4 W (by omega) (by omega) (by omega)
    rw [show ((8 + n + m : Nat) : Int) = 8 + (n : Int) + (m : Int) by omega] at this
    exact this
  have HW2 : Hid (∀ W, Calls Try.prog 23 #[.int .i64 (ch : Int), .int .i64 2] W fun e w' => ∃ v, e = .returned v ∧ w'.ownsRow W.heap.size 5 1 v 2 ((digs ch 2).map byteV) ∧ Below W.heap.size W w') := fun W => word_any ch 2 W (by omega) (by omega) (by omega)
  rcases hty with rfl | rfl
  · obtain ⟨WB, hWB⟩ : ∃ WB, WB = w.alloc (.cells #[.int .i64 0, .int .i64 (ch : Int), .slice a n c, .slice b m d] 24) := ⟨_, rfl⟩
    obtain ⟨B, hB⟩ : ∃ B, B = w.heap.size + 1 := ⟨_, rfl⟩
    have hWBs : WB.heap.size = B := by rw [hWB, hB]; simp
    have HBX : Hid (Below w.heap.size w WB) := by rw [hWB]; exact below_box w _
    have HC : Hid (∀ W, Below B WB W → FBox W w.heap.size 0 ch a n c b m d) := fun W h => by
      refine ⟨?_, ?_, ?_, ?_⟩ <;> (rw [h.cell (by show w.heap.size < B; omega), hWB]; simp)
    have HBE := hide hB
    go_enter Try.func12, Try.ntmps12
    go_wp2_with fail
    rw [← hWB]
    clear hWB hB
    refine (HW1.out _).mono ?_
    rintro e w1 ⟨v1, rfl, ho1, hb1⟩
    rw [hWBs] at ho1 hb1
    have HO1 := hide ho1
    have HB1 := hide hb1
    have hz1 : B ≤ w1.heap.size := by rw [← hWBs]; exact hb1.size
    have HWS := hide hWBs
    obtain ⟨c0, c1, c2, c3⟩ := HC.out _ hb1
    clear ho1 hb1 hWBs
    have HR1 : Hid (∀ o : Obj, o = .cells #[.int .u8 (q : Int), .int .u8 0] 5 → Rd (w1.alloc o) (some ⟨w1.heap.size, 0, none⟩) 2 [q, 0]) := fun o ho => by
      subst ho
      exact Bl.rd0 (l := [q, 0]) (show Bl _ _ _ from heap_alloc_new _ _) (fun c hc => by simp at hc; omega)
    go_wp2_with (first
      | (at_builtin; refine wpList_append_any _ rfl (.tmp 59) (.tmp 69) rfl B v1 4 (digs (8 + n + m) 4) rfl (HO1.out.alloc _) (some ⟨w1.heap.size, 0, none⟩) 2 2 [q, 0] rfl (fun h => by cases h) (HR1.out _ rfl) (by omega) (by simp; omega) ?_; intro v2 w2 r1 r2; have HO2 := hide r1; obtain ⟨hb2, hz2⟩ := grown_row (HO1.out.alloc _) (HB1.out.alloc hz1 _) (by simp; omega) r2; have HB2 := hide hb2; obtain ⟨x0, x1, x2, x3⟩ := HC.out _ hb2; clear r1 r2 hb2)
      | (go_at_call 23; refine (HW2.out w2).mono ?_; rintro e w3 ⟨v3, rfl, ho3, hb3⟩; obtain ⟨g3, cc3, rfl, hg3, hg3l⟩ := own_shape ho3 (by omega); have HR3 : Hid (Rd w3 (some ⟨g3, 0, none⟩) 2 (digs ch 2)) := (by obtain ⟨aa, cap3, e1, _, _, e4⟩ := Rd.of_own0 ho3 (digs_lt _ _); simp only [Value.slice.injEq] at e1; rw [e1.1]; exact e4); have HO3 : Hid (w3.ownsRow B 5 1 v2 (4 + 2) ((digs (8 + n + m) 4 ++ [q, 0]).map byteV)) := own_below5 HO2.out hb3; have HB3 : Hid (Below B WB w3) := HB2.out.trans (hb3.mono hz2); have hz3 : B ≤ w3.heap.size := Nat.le_trans hz2 hb3.size; clear ho3 hb3)
      | (at_builtin; refine wpList_append_any _ rfl (.tmp 71) (.tmp 74) rfl B v2 (4 + 2) (digs (8 + n + m) 4 ++ [q, 0]) rfl HO3.out (some ⟨g3, 0, none⟩) 2 cc3 (digs ch 2) rfl (fun h => by cases h) HR3.out (by omega) hz3 ?_; intro v4 w4 r1 r2; have HO4 := hide r1; obtain ⟨hb4, hz4⟩ := grown_row HO3.out HB3.out hz3 r2; have HB4 := hide hb4; have HA4 : Hid (Rd w4 a n ext) := HA.out.below (HBX.out.trans (hb4.mono (by have := HBE.out; omega))); obtain ⟨y0, y1, y2, y3⟩ := HC.out _ hb4; clear r1 r2 hb4)
      | (at_builtin; refine wpList_append_any _ rfl (.tmp 76) (.tmp 78) rfl B v4 (4 + 2 + 2) (digs (8 + n + m) 4 ++ [q, 0] ++ digs ch 2) rfl HO4.out a n c ext rfl HNA.out HA4.out (by omega) hz4 ?_; intro v5 w5 r1 r2; have HO5 := hide r1; obtain ⟨hb5, hz5⟩ := grown_row HO4.out HB4.out hz4 r2; have HB5 := hide hb5; have HA5 : Hid (Rd w5 b m body) := HB.out.below (HBX.out.trans (hb5.mono (by have := HBE.out; omega))); obtain ⟨z0, z1, z2, z3⟩ := HC.out _ hb5; clear r1 r2 hb5)
      | (at_builtin; refine wpList_append_any _ rfl (.tmp 80) (.tmp 82) rfl B v5 (4 + 2 + 2 + n) (digs (8 + n + m) 4 ++ [q, 0] ++ digs ch 2 ++ ext) rfl HO5.out b m d body rfl HNB.out HA5.out (by omega) hz5 ?_; intro v6 w6 r1 r2; have HO6 := hide r1; obtain ⟨hb6, hz6⟩ := grown_row HO5.out HB5.out hz5 r2; have HB6 := hide hb6; clear r1 r2 hb6))
    go_ret2
    refine ⟨v6, rfl, ?_, HBX.out.trans (HB6.out.mono (by have := HBE.out; omega))⟩
    have h := ownsRow_base HO6.out (show w.heap.size ≤ B by have := HBE.out; omega)
    have el : digs (8 + n + m) 4 ++ [q, 0] ++ digs ch 2 ++ ext ++ body = sealB 0 ch ext body := by unfold sealB; rw [hla, hlb, ← HQ.out]
    rw [el, show 4 + 2 + 2 + n + m = 8 + n + m by omega] at h
    exact h
  · obtain ⟨WB, hWB⟩ : ∃ WB, WB = w.alloc (.cells #[.int .i64 1, .int .i64 (ch : Int), .slice a n c, .slice b m d] 24) := ⟨_, rfl⟩
    obtain ⟨B, hB⟩ : ∃ B, B = w.heap.size + 1 := ⟨_, rfl⟩
    have hWBs : WB.heap.size = B := by rw [hWB, hB]; simp
    have HBX : Hid (Below w.heap.size w WB) := by rw [hWB]; exact below_box w _
    have HC : Hid (∀ W, Below B WB W → FBox W w.heap.size 1 ch a n c b m d) := fun W h => by
      refine ⟨?_, ?_, ?_, ?_⟩ <;> (rw [h.cell (by show w.heap.size < B; omega), hWB]; simp)
    have HBE := hide hB
    go_enter Try.func12, Try.ntmps12
    go_wp2_with fail
    rw [← hWB]
    clear hWB hB
    refine (HW1.out _).mono ?_
    rintro e w1 ⟨v1, rfl, ho1, hb1⟩
    rw [hWBs] at ho1 hb1
    have HO1 := hide ho1
    have HB1 := hide hb1
    have hz1 : B ≤ w1.heap.size := by rw [← hWBs]; exact hb1.size
    have HWS := hide hWBs
    obtain ⟨c0, c1, c2, c3⟩ := HC.out _ hb1
    clear ho1 hb1 hWBs
    have HR1 : Hid (∀ o : Obj, o = .cells #[.int .u8 (q : Int), .int .u8 1] 5 → Rd (w1.alloc o) (some ⟨w1.heap.size, 0, none⟩) 2 [q, 1]) := fun o ho => by
      subst ho
      exact Bl.rd0 (l := [q, 1]) (show Bl _ _ _ from heap_alloc_new _ _) (fun c hc => by simp at hc; omega)
    go_wp2_with (first
      | (at_builtin; refine wpList_append_any _ rfl (.tmp 59) (.tmp 69) rfl B v1 4 (digs (8 + n + m) 4) rfl (HO1.out.alloc _) (some ⟨w1.heap.size, 0, none⟩) 2 2 [q, 1] rfl (fun h => by cases h) (HR1.out _ rfl) (by omega) (by simp; omega) ?_; intro v2 w2 r1 r2; have HO2 := hide r1; obtain ⟨hb2, hz2⟩ := grown_row (HO1.out.alloc _) (HB1.out.alloc hz1 _) (by simp; omega) r2; have HB2 := hide hb2; obtain ⟨x0, x1, x2, x3⟩ := HC.out _ hb2; clear r1 r2 hb2)
      | (go_at_call 23; refine (HW2.out w2).mono ?_; rintro e w3 ⟨v3, rfl, ho3, hb3⟩; obtain ⟨g3, cc3, rfl, hg3, hg3l⟩ := own_shape ho3 (by omega); have HR3 : Hid (Rd w3 (some ⟨g3, 0, none⟩) 2 (digs ch 2)) := (by obtain ⟨aa, cap3, e1, _, _, e4⟩ := Rd.of_own0 ho3 (digs_lt _ _); simp only [Value.slice.injEq] at e1; rw [e1.1]; exact e4); have HO3 : Hid (w3.ownsRow B 5 1 v2 (4 + 2) ((digs (8 + n + m) 4 ++ [q, 1]).map byteV)) := own_below5 HO2.out hb3; have HB3 : Hid (Below B WB w3) := HB2.out.trans (hb3.mono hz2); have hz3 : B ≤ w3.heap.size := Nat.le_trans hz2 hb3.size; clear ho3 hb3)
      | (at_builtin; refine wpList_append_any _ rfl (.tmp 71) (.tmp 74) rfl B v2 (4 + 2) (digs (8 + n + m) 4 ++ [q, 1]) rfl HO3.out (some ⟨g3, 0, none⟩) 2 cc3 (digs ch 2) rfl (fun h => by cases h) HR3.out (by omega) hz3 ?_; intro v4 w4 r1 r2; have HO4 := hide r1; obtain ⟨hb4, hz4⟩ := grown_row HO3.out HB3.out hz3 r2; have HB4 := hide hb4; have HA4 : Hid (Rd w4 a n ext) := HA.out.below (HBX.out.trans (hb4.mono (by have := HBE.out; omega))); obtain ⟨y0, y1, y2, y3⟩ := HC.out _ hb4; clear r1 r2 hb4)
      | (at_builtin; refine wpList_append_any _ rfl (.tmp 76) (.tmp 78) rfl B v4 (4 + 2 + 2) (digs (8 + n + m) 4 ++ [q, 1] ++ digs ch 2) rfl HO4.out a n c ext rfl HNA.out HA4.out (by omega) hz4 ?_; intro v5 w5 r1 r2; have HO5 := hide r1; obtain ⟨hb5, hz5⟩ := grown_row HO4.out HB4.out hz4 r2; have HB5 := hide hb5; have HA5 : Hid (Rd w5 b m body) := HB.out.below (HBX.out.trans (hb5.mono (by have := HBE.out; omega))); obtain ⟨z0, z1, z2, z3⟩ := HC.out _ hb5; clear r1 r2 hb5)
      | (at_builtin; refine wpList_append_any _ rfl (.tmp 80) (.tmp 82) rfl B v5 (4 + 2 + 2 + n) (digs (8 + n + m) 4 ++ [q, 1] ++ digs ch 2 ++ ext) rfl HO5.out b m d body rfl HNB.out HA5.out (by omega) hz5 ?_; intro v6 w6 r1 r2; have HO6 := hide r1; obtain ⟨hb6, hz6⟩ := grown_row HO5.out HB5.out hz5 r2; have HB6 := hide hb6; clear r1 r2 hb6))
    go_ret2
    refine ⟨v6, rfl, ?_, HBX.out.trans (HB6.out.mono (by have := HBE.out; omega))⟩
    have h := ownsRow_base HO6.out (show w.heap.size ≤ B by have := HBE.out; omega)
    have el : digs (8 + n + m) 4 ++ [q, 1] ++ digs ch 2 ++ ext ++ body = sealB 1 ch ext body := by unfold sealB; rw [hla, hlb, ← HQ.out]
    rw [el, show 4 + 2 + 2 + n + m = 8 + n + m by omega] at h
    exact h
end Go.Proofs.Ytboacpneoblklaa
