
/- Seal. -/
import Derived.Test.YtaijcnkmklibcaaFCheck
import Derived.Test.YtaijcnkmklibcaaFOwnM
import Derived.Deep.RegionHeld3
namespace Go.Proofs.Ytaijcnkmklibcaa
open Go.RowKit Go.Deep
set_option linter.unusedVariables false
set_option linter.unusedSimpArgs false

set_option maxHeartbeats 2000000 in
theorem seal_no (ty ch : Int) (a : Option Addr) (n c : Nat) (b : Option Addr) (m d : Nat) (w : World) (hn : n ≤ 140737488355328) (hm : m ≤ 140737488355328) (hE : sealE ty ch n m ≠ 0) :
    Calls Try.prog 16 #[frV ty ch a n c b m d] w fun e w' => e = .returned (.tuple #[.slice none 0 0, .int .i64 (sealE ty ch n m)]) ∧ Below w.heap.size w w' := by
  have HCH := hide (fun W => check_any ty ch a n c b m d W hn hm)
  unfold frV at *
  generalize sealE ty ch n m = E at *
  have hE' : (E != 0) = true := by simpa using hE
  clear hE
  go_enter Try.func16, Try.ntmps16
  go_wp2_with (go_at_call 33; refine (HCH.out _).mono ?_; rintro e w' ⟨rfl, hb⟩)
  go_ret2
  exact ⟨rfl, (below_box w _).trans (hb.mono (by simp))⟩

theorem below_alike {B : Nat} {w w' w2 : World} (h : Below B w w') (h1 : w2.heap = w'.heap) (h2 : w2.os = w'.os) (h3 : w2.tape = w'.tape) (h4 : w2.output = w'.output) : Below B w w2 :=
  ⟨h2.trans h.os, h3.trans h.tape, h4.trans h.output, by rw [h1]; exact h.size, fun k hk => by rw [h1]; exact h.block k hk⟩
/-- Put, while a block of bytes is being written -/
theorem put_into (N k G : Nat) (w1 W0 W : World) (cur : List Nat) (h1 : 1 ≤ k) (h8 : k ≤ 8) (hN : N < 18446744073709551616) (hG : Bl W0 G cur) (hB : Below G w1 W0) (e1 : W.heap = W0.heap) (e2 : W.os = W0.os) (e3 : W.tape = W0.tape) (e4 : W.output = W0.output) :
    Calls Try.prog 34 #[.int .u64 (N : Int), .int .i64 (k : Int)] W fun e w3 => e = .returned (.slice (some ⟨W0.heap.size, 0, none⟩) k k) ∧ Hid (Bl w3 G cur) ∧ Hid (Below G w1 w3) ∧ Hid (Rd w3 (some ⟨W0.heap.size, 0, none⟩) k (digs N k)) :=
  (put_yes N k W hN h1 h8).mono fun e w3 ⟨g1, g2, g3, g4⟩ => by
    have hlt := hG.lt
    refine ⟨by rw [g1, e1], ?_, ?_, ?_⟩
    · exact hG.block ((g4.block G (by rw [e1]; exact hlt)).trans (by rw [e1]))
    · exact (below_alike hB e1 e2 e3 e4).trans (g4.mono (by rw [e1]; omega))
    · have := (Bl.of_digs g2).rd0 (digs_lt _ _)
      rw [digs_length, e1] at this
      exact this
/-- a frame in a variable of its own -/
def FBox (w : World) (g : Nat) (ty ch : Int) (a : Option Addr) (n c : Nat) (b : Option Addr) (m d : Nat) : Prop :=
  w.cell? ⟨g, 0, none⟩ = some (.int .i64 ty) ∧ w.cell? ⟨g, 1, none⟩ = some (.int .i64 ch) ∧ w.cell? ⟨g, 2, none⟩ = some (.slice a n c) ∧ w.cell? ⟨g, 3, none⟩ = some (.slice b m d)

set_option maxRecDepth 100000 in
set_option maxHeartbeats 400000 in
theorem seal_yes (ty ch : Nat) (a : Option Addr) (n c : Nat) (b : Option Addr) (m d : Nat) (ext body : List Nat) (w : World) (ha : Rd w a n ext) (hb : Rd w b m body) (hE : sealE ty ch n m = 0) :
    Calls Try.prog 16 #[frV ty ch a n c b m d] w fun e w' => ∃ g, e = .returned (.tuple #[.slice (some ⟨g, 0, none⟩) (8 + n + m) (8 + n + m), .int .i64 0]) ∧ w.heap.size ≤ g ∧ Bl w' g (sealB ty ch ext body) ∧ Below w.heap.size w w' := by
  obtain ⟨htc, hn4, hn, hm⟩ := sealE_ok hE
  have htc' : ty ≤ 1 ∧ ch ≤ 65535 := by omega
  have HCH := hide (fun W => check_any ty ch a n c b m d W (by omega) (by omega))
  rw [hE] at HCH
  clear hE
  unfold frV at *
  have HA := hide ha
  have HB := hide hb
  have hla := ha.1
  have hlb := hb.1
  clear ha hb
  obtain ⟨N, hN⟩ : ∃ N, N = 8 + n + m := ⟨_, rfl⟩
  have hmk := run_make_row' (P := Try.prog) 33 5 (.int .u8 0) 1 Try.underlying33 Try.info5 rfl .i64 .i64 N (by omega) (by omega)
  rw [show ((N : Nat) : Int) = 8 + (n : Int) + (m : Int) by omega] at hmk
  rw [← hN]
  have HN := hide hN
  have hNi : (8 : Int) + (n : Int) ≤ (N : Int) := by omega
  have hN8 : (8 : Int) ≤ (N : Int) := by omega
  have hN4 : (4 : Int) ≤ (N : Int) := by omega
  have hNm : (N : Int) ≤ 1048576 := by omega
  clear hN
  go_enter Try.func16, Try.ntmps16
  go_wp2_with (go_at_call 33; refine (HCH.out _).mono ?_; rintro e w1 ⟨rfl, hb1⟩; have HB1 := hide hb1; have c2 := hb1.cell (p := ⟨w.heap.size, 2, none⟩) (by simp); have c3 := hb1.cell (p := ⟨w.heap.size, 3, none⟩) (by simp); simp at c2 c3; clear hb1)
  obtain ⟨G, hG⟩ : ∃ G, G = w1.heap.size := ⟨_, rfl⟩
  have hGw : w.heap.size < G := by have := HB1.out.size; simp at this; omega
  have HBW1 : Hid (Below w.heap.size w w1) := (below_box w _).trans (HB1.out.mono (by simp))
  have HG0 := hide (Bl.made w1 N)
  have HBG : Hid (Below G w1 (w1.alloc (.cells (madeCells #[.int .u8 0] N) 5))) := (Below.refl _ _).alloc (by omega) _
  rw [← hG] at HG0
  obtain ⟨W0, hW0⟩ : ∃ W0, W0 = w1.alloc (.cells (madeCells #[.int .u8 0] N) 5) := ⟨_, rfl⟩
  rw [← hW0] at HG0 HBG ⊢
  rw [← hG]
  have HGE := hide hG
  clear hW0 hmk hG c2 c3
  have HC : Hid (∀ W, Below G w1 W → FBox W w.heap.size ty ch a n c b m d) := fun W h => by
    have h1 := HB1.out
    refine ⟨?_, ?_, ?_, ?_⟩ <;> (rw [h.cell (by simpa using hGw), h1.cell (by simp)]; simp)
  have HP1 : Hid (∀ W, W.heap = W0.heap → W.os = W0.os → W.tape = W0.tape → W.output = W0.output → Calls Try.prog 34 #[.int .u64 (N : Int), .int .i64 4] W fun e w3 => e = .returned (.slice (some ⟨W0.heap.size, 0, none⟩) 4 4) ∧ Hid (Bl w3 G (List.replicate N 0)) ∧ Hid (Below G w1 w3) ∧ Hid (Rd w3 (some ⟨W0.heap.size, 0, none⟩) 4 (digs N 4))) := fun W e1 e2 e3 e4 =>
    put_into N 4 G w1 W0 W _ (by omega) (by omega) (by omega) HG0.out HBG.out e1 e2 e3 e4
  have HW : Hid (IntKind.u64.wrap (N : Int) = (N : Int)) := by show _ = _; rw [IntKind.wrap_u64]; omega
  go_region_held3 (fun _ => True) (trivial) ((first
    | (go_at_call 34; (try rw [HW.out]); refine Calls.mono (HP1.out W0.drew rfl rfl rfl rfl) ?_; rintro e3 w3 ⟨rfl, HG3, HB3, HR3⟩)
    | (have HX3 := HG3; refine step_copy_bl rfl (.tmp 23) (.tmp 27) rfl (some ⟨G, 0, none⟩) (some ⟨W0.heap.size, 0, none⟩) 4 4 4 4 (by first | rfl | simp [Act.eval, Act.put]) (by first | rfl | simp [Act.eval, Act.put]) G 0 (List.replicate N 0) HX3.out (digs N 4) (by rw [digs_length]; rfl) (fun _ => rfl) HR3.out (by rw [digs_length, List.length_replicate]; omega) G w1 HB3.out (Nat.le_refl _) ?_; intro w4 HG4 hb4; have HB4 := hide hb4; clear hb4)))
  obtain ⟨C1, hC1⟩ : ∃ C1, C1 = List.take 0 (List.replicate N 0) ++ (digs N 4 ++ List.drop (0 + (digs N 4).length) (List.replicate N 0)) := ⟨_, rfl⟩
  rw [← hC1] at HG4
  have HC1 := hide hC1
  have hl1 : C1.length = N := by rw [hC1]; simp [digs_length]; omega
  clear hC1
  have g4 := HG4.out.cell (show 4 < C1.length by omega)
  have g5 := HG4.out.cell (show 5 < C1.length by omega)
  have f4 := HG4.out.frozen 4
  have f5 := HG4.out.frozen 5
  obtain ⟨c0, c1, c2, c3⟩ := HC.out _ HB4.out
  have hne : w.heap.size ≠ G := by omega
  have hne2 : G ≠ w.heap.size := by omega
  have hq : (8 + (n : Int)) / 4 = (((8 + n) / 4 : Nat) : Int) := by omega
  have hq2 : (8 + n) / 4 ≤ 255 := by omega
  have HG6 := hide ((HG4.out.set 4 ((8 + n) / 4)).set 5 ty)
  have HB6 := hide (below_setAt (below_setAt HB4.out (Nat.le_refl _) 4 (byteV ((8 + n) / 4))) (Nat.le_refl _) 5 (byteV ty))
  generalize C1.getD 4 0 = y4 at *
  generalize C1.getD 5 0 = y5 at *
  obtain ⟨q, hqq⟩ : ∃ q, q = (8 + n) / 4 := ⟨_, rfl⟩
  rw [← hqq] at hq hq2 HG6 HB6
  have HQ : Hid ((8 + n) / 4 = q) := hqq.symm
  clear hqq
  go_wp2
  obtain ⟨W6, hW6⟩ : ∃ W6, W6 = (w4.setCell ⟨G, 4, none⟩ (byteV q)).setCell ⟨G, 5, none⟩ (byteV ty) := ⟨_, rfl⟩
  change Code.wp _ _ _ _ ((w4.setCell ⟨G, 4, none⟩ (byteV q)).setCell ⟨G, 5, none⟩ (byteV ty))
  rw [← hW6] at HG6 HB6 ⊢
  obtain ⟨C3, hC3⟩ : ∃ C3, C3 = (C1.set 4 q).set 5 ty := ⟨_, rfl⟩
  rw [← hC3] at HG6
  have hl3 : C3.length = N := by rw [hC3]; simp [hl1]
  have HC3 := hide hC3
  have HS6 : Hid (W6.cell? ⟨w.heap.size, 1, none⟩ = some (.int .i64 (ch : Int))) := (HC.out _ HB6.out).2.1
  clear hW6 hC3 g4 g5 f4 f5 c0 c1 c2 c3 HG4 HB4
  have HP2 : Hid (∀ W, W.heap = W6.heap → W.os = W6.os → W.tape = W6.tape → W.output = W6.output → Calls Try.prog 34 #[.int .u64 (ch : Int), .int .i64 2] W fun e w3 => e = .returned (.slice (some ⟨W6.heap.size, 0, none⟩) 2 2) ∧ Hid (Bl w3 G C3) ∧ Hid (Below G w1 w3) ∧ Hid (Rd w3 (some ⟨W6.heap.size, 0, none⟩) 2 (digs ch 2))) := fun W e1 e2 e3 e4 =>
    put_into ch 2 G w1 W6 W _ (by omega) (by omega) (by omega) HG6.out HB6.out e1 e2 e3 e4
  have HW2 : Hid (IntKind.u64.wrap (ch : Int) = (ch : Int)) := by show _ = _; rw [IntKind.wrap_u64]; omega
  have hch : (ch : Int) ≤ 65535 := by omega
  go_region_held3 (fun W => W.cell? ⟨w.heap.size, 1, none⟩ = some (.int .i64 (ch : Int))) (first | exact HS6.out | exact (HC.out _ HB8.out).2.1 | exact (HC.out _ HB7.out).2.1) ((first
    | (go_at_call 34; (try rw [HW2.out]); refine Calls.mono (HP2.out W6.drew rfl rfl rfl rfl) ?_; rintro e7 w7 ⟨rfl, HG7, HB7, HR7⟩)
    | (have HX7 := HG7; refine step_copy_bl rfl (.tmp 40) (.tmp 44) rfl (some ⟨G, 6, none⟩) (some ⟨W6.heap.size, 0, none⟩) 2 2 2 2 (by first | rfl | simp [Act.eval, Act.put]) (by first | rfl | simp [Act.eval, Act.put]) G 6 C3 HX7.out (digs ch 2) (by rw [digs_length]; rfl) (fun _ => rfl) HR7.out (by rw [digs_length, hl3]; omega) G w1 HB7.out (Nat.le_refl _) ?_; intro w8 HG8 hb8; have HB8 := hide hb8; clear hb8)))
  obtain ⟨C4, hC4⟩ : ∃ C4, C4 = List.take 6 C3 ++ (digs ch 2 ++ List.drop (6 + (digs ch 2).length) C3) := ⟨_, rfl⟩
  rw [← hC4] at HG8
  have hl4 : C4.length = N := by rw [hC4]; simp [digs_length, hl3]; omega
  have HC4 := hide hC4
  have HS8 : Hid (w8.cell? ⟨w.heap.size, 2, none⟩ = some (.slice a n c)) := (HC.out _ HB8.out).2.2.1
  clear hC4 HG7 HB7 HG6 HB6 HS6
  obtain ⟨d10, hd10, hs10⟩ := cut3_own G N 8 (8 + n) 8 (8 + (n : Int)) rfl (by omega) (by omega) (by omega)
  rw [Nat.add_sub_cancel_left] at hd10 hs10
  have HD10 := hide hd10
  have HRA : Hid (Rd w8 a n ext) := HA.out.below (HBW1.out.trans (HB8.out.mono (by omega)))
  clear hd10
  go_wp2
  go_region_held3 (fun W => W.cell? ⟨w.heap.size, 2, none⟩ = some (.slice a n c)) (first | exact HS8.out | exact (HC.out _ HB9.out).2.2.1) ((first
    | (refine step_copy_bl rfl (.tmp 49) (.tmp 51) rfl d10 a n n n c (by first | rfl | simp [Act.eval, Act.put]) (by first | rfl | simp [Act.eval, Act.put]) G 8 C4 (show Bl _ _ _ from HG8.out) ext (by rw [hla]; exact (Nat.min_self n).symm) (fun h => HD10.out (by omega)) (show Rd _ _ _ _ from HRA.out) (by omega) G w1 (below_alike HB8.out rfl rfl rfl rfl) (Nat.le_refl _) ?_; intro w9 HG9 hb9; have HB9 := hide hb9; clear hb9)))
  obtain ⟨C5, hC5⟩ : ∃ C5, C5 = List.take 8 C4 ++ (ext ++ List.drop (8 + ext.length) C4) := ⟨_, rfl⟩
  rw [← hC5] at HG9
  have hl5 : C5.length = N := by rw [hC5]; simp [hl4, hla]; omega
  have HC5 := hide hC5
  have HS9 : Hid (w9.cell? ⟨w.heap.size, 3, none⟩ = some (.slice b m d)) := (HC.out _ HB9.out).2.2.2
  clear hC5 HG8 HB8 HS8 hs10
  obtain ⟨d11, hd11, hs11⟩ := cut1_own G N (8 + n) (8 + (n : Int)) (by omega) (by omega)
  rw [show N - (8 + n) = m by have := HN.out; omega] at hd11 hs11
  have HD11 := hide hd11
  have HRB : Hid (Rd w9 b m body) := HB.out.below (HBW1.out.trans (HB9.out.mono (by omega)))
  clear hd11
  go_wp2
  go_region_held3 (fun W => W.cell? ⟨w.heap.size, 3, none⟩ = some (.slice b m d)) (first | exact HS9.out | exact (HC.out _ HB10.out).2.2.2) ((first
    | (refine step_copy_bl rfl (.tmp 55) (.tmp 57) rfl d11 b m m m d (by first | rfl | simp [Act.eval, Act.put]) (by first | rfl | simp [Act.eval, Act.put]) G (8 + n) C5 (show Bl _ _ _ from HG9.out) body (by rw [hlb]; exact (Nat.min_self m).symm) (fun h => HD11.out (by omega)) (show Rd _ _ _ _ from HRB.out) (by have := HN.out; omega) G w1 (below_alike HB9.out rfl rfl rfl rfl) (Nat.le_refl _) ?_; intro w10 HG10 hb10; have HB10 := hide hb10; clear hb10)))
  have HFIN : Hid (Bl w10 G (sealB ty ch ext body)) := by
    have h := HG10.out
    have e := seal_list (digs N 4) q ty (digs ch 2) ext body (digs_length _ _) (digs_length _ _) N (by rw [hla, hlb]; exact HN.out) C1 (C1.set 4 q) C3 C4 C5 _ HC1.out rfl HC3.out HC4.out HC5.out rfl
    rw [hla] at e
    rw [e] at h
    unfold sealB
    rw [hla, hlb, ← HN.out, HQ.out]
    exact h
  clear hs11
  go_wp2
  go_ret2
  exact ⟨G, rfl, by omega, HFIN.out, HBW1.out.trans (HB10.out.mono (by omega))⟩
end Go.Proofs.Ytaijcnkmklibcaa
