
/- Open. -/
import Derived.Test.YtaijcnkmklibcaaFReadH
namespace Go.Proofs.Ytaijcnkmklibcaa
open Go.RowKit Go.Deep
set_option linter.unusedVariables false
set_option linter.unusedSimpArgs false

/-- why a frame can't be opened -/
def opE (l : List Nat) (x most : Int) : Int := if x < 0 ∨ l.length < x ∨ most < 512 ∨ 1048576 < most then 1 else hE (l.drop x.toNat) most
def exL (r : List Nat) : List Nat := (r.drop 8).take (hBegin r - 8)
def boL (r : List Nat) : List Nat := (r.drop (hBegin r)).take (hSize r - hBegin r)
theorem frV_zero : frV 0 0 none 0 0 none 0 0 = .agg #[.int .i64 0, .int .i64 0, .slice none 0 0, .slice none 0 0] := rfl

set_option maxRecDepth 100000 in
set_option maxHeartbeats 1000000 in
theorem open_arg (a : Option Addr) (n cap : Nat) (x most : Int) (w : World) (h : x < 0 ∨ (n : Int) < x ∨ most < 512 ∨ 1048576 < most) :
    Calls Try.prog 67 #[.slice a n cap, .int .i64 x, .int .i64 most] w fun e w' => e = .returned (.tuple #[frV 0 0 none 0 0 none 0 0, .int .i64 0, .int .i64 1]) ∧ Below w.heap.size w w' := by
  rw [frV_zero]
  by_cases h1 : x < 0
  · go_enter Try.func67, Try.ntmps67
    go_wp2
    exact bodyPost_ret (v := .tuple #[.agg #[.int .i64 0, .int .i64 0, .slice none 0 0, .slice none 0 0], .int .i64 0, .int .i64 1]) (by simp [results, Try.results67, go_sem]) rfl ⟨rfl, below_box _ _⟩
  · by_cases h2 : (n : Int) < x
    · go_enter Try.func67, Try.ntmps67
      go_wp2
      exact bodyPost_ret (v := .tuple #[.agg #[.int .i64 0, .int .i64 0, .slice none 0 0, .slice none 0 0], .int .i64 0, .int .i64 1]) (by simp [results, Try.results67, go_sem]) rfl ⟨rfl, below_box _ _⟩
    · by_cases h3 : most < 512
      · go_enter Try.func67, Try.ntmps67
        go_wp2
        exact bodyPost_ret (v := .tuple #[.agg #[.int .i64 0, .int .i64 0, .slice none 0 0, .slice none 0 0], .int .i64 0, .int .i64 1]) (by simp [results, Try.results67, go_sem]) rfl ⟨rfl, below_box _ _⟩
      · have h4 : 1048576 < most := by omega
        clear h
        go_enter Try.func67, Try.ntmps67
        go_wp2
        exact bodyPost_ret (v := .tuple #[.agg #[.int .i64 0, .int .i64 0, .slice none 0 0, .slice none 0 0], .int .i64 0, .int .i64 1]) (by simp [results, Try.results67, go_sem]) rfl ⟨rfl, below_box _ _⟩

set_option maxRecDepth 100000 in
set_option maxHeartbeats 1000000 in
theorem open_bad (a : Option Addr) (n cap i : Nat) (most : Int) (l : List Nat) (w : World) (hr : Rd w a n l) (hnc : n ≤ cap) (hcap : n ≤ 281474976710656) (hi : i ≤ n) (hm0 : 512 ≤ most) (hm1 : most ≤ 1048576) (hE0 : hE (l.drop i) most ≠ 0) :
    Calls Try.prog 67 #[.slice a n cap, .int .i64 (i : Int), .int .i64 most] w fun e w' => e = .returned (.tuple #[frV 0 0 none 0 0 none 0 0, .int .i64 0, .int .i64 (hE (l.drop i) most)]) ∧ Below w.heap.size w w' := by
  rw [frV_zero]
  have hcut := cut1 a n cap i (i : Int) rfl hi
  obtain ⟨A, hA⟩ : ∃ A, A = (if cap = i then a else a.map (fun p => p.add i)) := ⟨_, rfl⟩
  rw [← hA] at hcut
  have HRD : Hid (∀ o, Rd (w.alloc o) A (n - i) (l.drop i)) := fun o => by
    have h := hr.cut (i := i) (m := n - i) (by omega) (a' := A) (fun h0 b off h => by rw [hA, if_neg (by omega)]; exact map_add a i b off h)
    rw [List.take_of_length_le (by simp [hr.1])] at h
    exact h.below (below_box w o)
  have HRH := hide (fun o => readHead_no A (n - i) (cap - i) most (l.drop i) (w.alloc o) (HRD.out o) (by omega) (by omega) hE0)
  unfold hdV at HRH
  generalize hE (l.drop i) most = E at *
  have hE1 : (E != 0) = true := by simpa using hE0
  clear hr hA hE0
  have h1 : ¬ most < 512 := by omega
  go_enter Try.func67, Try.ntmps67
  go_wp2_with (go_at_call 70; refine (HRH.out _).mono ?_; rintro e w1 ⟨rfl, hb⟩; have c0 := hb.cell (p := ⟨w.heap.size, 0, none⟩) (by simp); have c1 := hb.cell (p := ⟨w.heap.size, 1, none⟩) (by simp); have c2 := hb.cell (p := ⟨w.heap.size, 2, none⟩) (by simp); have c3 := hb.cell (p := ⟨w.heap.size, 3, none⟩) (by simp); have f0 := hb.frozen (p := ⟨w.heap.size, 0, none⟩) (by simp); have f1 := hb.frozen (p := ⟨w.heap.size, 1, none⟩) (by simp); have f2 := hb.frozen (p := ⟨w.heap.size, 2, none⟩) (by simp); have f3 := hb.frozen (p := ⟨w.heap.size, 3, none⟩) (by simp); have hlt : w.heap.size < w1.heap.size := Nat.lt_of_lt_of_le (by simp) hb.size; have HB := hide hb; simp at c0 c1 c2 c3 f0 f1 f2 f3; clear hb)
  have HBW : Below w.heap.size w w1 := (below_box w _).trans (HB.out.mono (by simp))
  exact bodyPost_ret (v := .tuple #[.agg #[.int .i64 0, .int .i64 0, .slice none 0 0, .slice none 0 0], .int .i64 0, .int .i64 E]) (by simp [results, Try.results67, go_sem, c0, c1, c2, c3, hlt]) rfl ⟨rfl, ((((HBW.setCell (Nat.le_refl _) _).setCell (Nat.le_refl _) _).setCell (Nat.le_refl _) _).setCell (Nat.le_refl _) _).alloc (by simp; omega) _⟩

/-- an empty frame in a block of its own -/
def FZ (w : World) (F : Nat) : Prop := w.heap[F]? = some (.cells #[.int .i64 0, .int .i64 0, .slice none 0 0, .slice none 0 0] 49 (0, 0))
theorem FZ.new (w : World) : FZ (w.alloc (.cells #[.int .i64 0, .int .i64 0, .slice none 0 0, .slice none 0 0] 49)) w.heap.size := heap_alloc_new _ _
theorem FZ.newd (w : World) : FZ (w.alloc (.cells #[.int .i64 0, .int .i64 0, .slice none 0 0, .slice none 0 0] 49)).drew w.heap.size := heap_alloc_new _ _
theorem FZ.below {w w' : World} {F B : Nat} (h : FZ w F) (hb : Below B w w') (hB : F < B) : FZ w' F := (hb.block F hB).trans h
theorem FZ.facts {w : World} {F : Nat} (h : FZ w F) : w.cell? ⟨F, 0, none⟩ = some (.int .i64 0) ∧ w.cell? ⟨F, 1, none⟩ = some (.int .i64 0) ∧ w.cell? ⟨F, 2, none⟩ = some (.slice none 0 0) ∧ w.cell? ⟨F, 3, none⟩ = some (.slice none 0 0) ∧
    w.frozen? ⟨F, 0, none⟩ = false ∧ w.frozen? ⟨F, 1, none⟩ = false ∧ w.frozen? ⟨F, 2, none⟩ = false ∧ w.frozen? ⟨F, 3, none⟩ = false := by
  unfold FZ at h
  simp [World.cell?, World.frozen?, h]
/-- a frame in a block of its own -/
def FB4 (w : World) (F : Nat) (v0 v1 v2 v3 : Value) : Prop := w.heap[F]? = some (.cells #[v0, v1, v2, v3] 49 (0, 0))
theorem FZ.put {w : World} {F : Nat} (h : FZ w F) (v0 v1 v2 v3 : Value) : FB4 ((((w.setCell ⟨F, 0, none⟩ v0).setCell ⟨F, 1, none⟩ v1).setCell ⟨F, 2, none⟩ v2).setCell ⟨F, 3, none⟩ v3) F v0 v1 v2 v3 := by
  unfold FZ at h
  unfold FB4
  simp [World.setCell, Array.getElem?_modify, h]
theorem FB4.new (w : World) (v0 v1 v2 v3 : Value) : FB4 (w.alloc (.cells #[v0, v1, v2, v3] 49)) w.heap.size v0 v1 v2 v3 := heap_alloc_new _ _
theorem FB4.cells {w : World} {F : Nat} {v0 v1 v2 v3 : Value} (h : FB4 w F v0 v1 v2 v3) : w.cell? ⟨F, 0, none⟩ = some v0 ∧ w.cell? ⟨F, 1, none⟩ = some v1 ∧ w.cell? ⟨F, 2, none⟩ = some v2 ∧ w.cell? ⟨F, 3, none⟩ = some v3 := by
  unfold FB4 at h
  simp [World.cell?, h]
theorem cell_set4 (W : World) (R : Nat) (v0 v1 v2 v3 : Value) (b o : Nat) (h : b ≠ R) : ((((W.setCell ⟨R, 0, none⟩ v0).setCell ⟨R, 1, none⟩ v1).setCell ⟨R, 2, none⟩ v2).setCell ⟨R, 3, none⟩ v3).cell? ⟨b, o, none⟩ = W.cell? ⟨b, o, none⟩ := by
  refine World.cell?_of_block (a := ⟨b, o, none⟩) ?_
  have h' : R ≠ b := fun e => h e.symm
  simp [World.setCell, Array.getElem?_modify, h']
theorem FZ.lt {w : World} {F : Nat} (h : FZ w F) : F < w.heap.size := (Array.getElem?_eq_some_iff.1 h).1

set_option maxRecDepth 100000 in
set_option maxHeartbeats 16000000 in
theorem open_good (a : Option Addr) (n cap i : Nat) (most : Int) (l : List Nat) (w : World) (hr : Rd w a n l) (hnc : n ≤ cap) (hcap : n ≤ 281474976710656) (hi : i ≤ n) (hm0 : 512 ≤ most) (hm1 : most ≤ 1048576) (hE0 : hE (l.drop i) most = 0) :
    Calls Try.prog 67 #[.slice a n cap, .int .i64 (i : Int), .int .i64 most] w fun e w' => ∃ g1 g2, e = .returned (.tuple #[frV (hKind (l.drop i)) (hChan (l.drop i)) (some ⟨g1, 0, none⟩) (hBegin (l.drop i) - 8) (hBegin (l.drop i) - 8) (some ⟨g2, 0, none⟩) (hSize (l.drop i) - hBegin (l.drop i)) (hSize (l.drop i) - hBegin (l.drop i)), .int .i64 ((i : Int) + (hSize (l.drop i) : Int)), .int .i64 0]) ∧
      w.heap.size ≤ g1 ∧ g1 < g2 ∧ Bl w' g1 (exL (l.drop i)) ∧ Bl w' g2 (boL (l.drop i)) ∧ Below w.heap.size w w' := by
  have hcut := cut1 a n cap i (i : Int) rfl hi
  obtain ⟨A, hA⟩ : ∃ A, A = (if cap = i then a else a.map (fun p => p.add i)) := ⟨_, rfl⟩
  rw [← hA] at hcut
  have HRW : Hid (Rd w A (n - i) (l.drop i)) := by
    have h := hr.cut (i := i) (m := n - i) (by omega) (a' := A) (fun h0 b off h => by rw [hA, if_neg (by omega)]; exact map_add a i b off h)
    rw [List.take_of_length_le (by simp [hr.1])] at h
    exact h
  have hrl : (l.drop i).length = n - i := by simp [hr.1]
  clear hr hA
  generalize l.drop i = r at *
  obtain ⟨k1, k2, k3, k4, k5, k6, k7⟩ := hE_ok hE0
  rw [hrl] at k1 k7
  have HRH := hide (fun o => readHead_ok A (n - i) (cap - i) most r (w.alloc o) (HRW.out.below (below_box w o)) (by omega) (by omega) hE0)
  unfold hdV at HRH
  unfold frV
  obtain ⟨C, hC⟩ : ∃ C, C = hChan r := ⟨_, rfl⟩
  obtain ⟨K, hK⟩ : ∃ K, K = hKind r := ⟨_, rfl⟩
  obtain ⟨S, hS⟩ : ∃ S, S = hSize r := ⟨_, rfl⟩
  obtain ⟨D, hD⟩ : ∃ D, D = hBegin r := ⟨_, rfl⟩
  have HX : Hid (exL r = (r.drop 8).take (D - 8)) := by show _ = _; rw [hD]; rfl
  have HY : Hid (boL r = (r.drop D).take (S - D)) := by show _ = _; rw [hD, hS]; rfl
  rw [← hC, ← hK, ← hS, ← hD] at HRH ⊢
  rw [← hS] at k2 k3 k5 k7
  rw [← hD] at k4 k5
  clear hC hK hS hD hE0 k6
  have h1 : ¬ most < 512 := by omega
  have hSm : S ≤ 1048576 := by omega
  go_enter Try.func67, Try.ntmps67
  go_wp2_with (go_at_call 70; refine (HRH.out _).mono ?_; rintro e w1 ⟨rfl, hb⟩; have HB := hide hb; clear hb)
  obtain ⟨H, hH⟩ : ∃ H, H = w1.heap.size := ⟨_, rfl⟩
  have hHw : w.heap.size < H := by have := HB.out.size; simp at this; omega
  obtain ⟨W0, hW0⟩ : ∃ W0, W0 = w1.alloc (.cells #[.int .i64 (S : Int), .int .i64 (D : Int), .int .i64 (K : Int), .int .i64 (C : Int)] 106) := ⟨_, rfl⟩
  have hW0s : W0.heap.size = H + 1 := by rw [hW0, hH]; simp
  have HB0 : Hid (Below w.heap.size w W0) := by rw [hW0]; exact ((below_box w _).trans (HB.out.mono (by simp))).alloc (by omega) _
  have HH : Hid (∀ W, Below W0.heap.size W0 W → W.cell? ⟨H, 0, none⟩ = some (.int .i64 (S : Int)) ∧ W.cell? ⟨H, 1, none⟩ = some (.int .i64 (D : Int)) ∧ W.cell? ⟨H, 2, none⟩ = some (.int .i64 (K : Int)) ∧ W.cell? ⟨H, 3, none⟩ = some (.int .i64 (C : Int))) := fun W h => by
    refine ⟨?_, ?_, ?_, ?_⟩ <;> (rw [h.cell (by show H < _; omega), hW0, hH]; simp)
  have HRZ : Hid (∀ W, Below W0.heap.size W0 W → FZ W w.heap.size) := fun W h => by
    refine FZ.below ?_ h (by omega)
    rw [hW0]
    exact FZ.below (FZ.below (FZ.new w) HB.out (by simp)) (below_box w1 _) (by omega)
  rw [← hW0, ← hH]
  clear hW0
  have HGE := hide hH
  clear hH
  have HR0 := hide (HRW.out.below HB0.out)
  have HP1 : Hid (∀ W, Below W0.heap.size W0 W → Calls Try.prog 71 #[.slice A (n - i) (cap - i), .int .i64 8, .int .i64 (D : Int)] W fun e w' => e = .returned (.slice (some ⟨W.heap.size, 0, none⟩) (D - 8) (D - 8)) ∧ Hid (Bl w' W.heap.size ((r.drop 8).take (D - 8))) ∧ Hid (w'.heap.size = W.heap.size + 1) ∧ Hid (Below W.heap.size W w')) := fun W h =>
    part_any A (n - i) (cap - i) 8 D r W (HR0.out.below h) (by omega) (by omega) (by omega) (by omega) (by omega)
  have HP2 : Hid (∀ W, Below W0.heap.size W0 W → Calls Try.prog 71 #[.slice A (n - i) (cap - i), .int .i64 (D : Int), .int .i64 (S : Int)] W fun e w' => e = .returned (.slice (some ⟨W.heap.size, 0, none⟩) (S - D) (S - D)) ∧ Hid (Bl w' W.heap.size ((r.drop D).take (S - D))) ∧ Hid (w'.heap.size = W.heap.size + 1) ∧ Hid (Below W.heap.size W w')) := fun W h =>
    part_any A (n - i) (cap - i) D S r W (HR0.out.below h) (by omega) (by omega) (by omega) (by omega) (by omega)
  have HW0S := hide hW0s
  clear hW0s
  have HBD : Hid (Below W0.heap.size W0 W0.drew) := (Below.refl _ _).drew
  have HBDA : Hid (∀ o, Below W0.heap.size W0 (W0.drew.alloc o)) := fun o => HBD.out.alloc (Nat.le_refl _) o
  go_region_held3 (fun W => W.cell? ⟨H, 0, none⟩ = some (.int .i64 (S : Int)) ∧ W.cell? ⟨H, 1, none⟩ = some (.int .i64 (D : Int)) ∧ W.cell? ⟨H, 2, none⟩ = some (.int .i64 (K : Int)) ∧ W.cell? ⟨H, 3, none⟩ = some (.int .i64 (C : Int))) (first | exact HH.out _ HB4.out | exact HH.out _ HB4.out.drew | exact HH.out _ (HB4.out.alloc HZ4.out _) | exact HH.out _ (HB4.out.drew.alloc HZ4.out _) | exact HH.out _ HB3.out | exact HH.out _ HB3.out.drew | exact HH.out _ (HB3.out.alloc HZ3.out _) | exact HH.out _ (HB3.out.drew.alloc HZ3.out _) | exact HH.out _ HBD.out | exact HH.out _ (HBDA.out _) | exact HH.out _ (Below.refl _ _) | exact HH.out _ (below_setAt (below_setAt (below_setAt (below_setAt HB4.out (by have := HZ3.out; omega) 0 _) (by have := HZ3.out; omega) 1 _) (by have := HZ3.out; omega) 2 _) (by have := HZ3.out; omega) 3 _)) ((first
    | (go_at_call 71; have HX3 := HB3; refine Calls.mono (HP2.out _ (by first | exact HX3.out | exact HX3.out.drew | exact HX3.out.alloc HZ3.out _ | exact HX3.out.drew.alloc HZ3.out _)) ?_; rintro e4 w4 ⟨rfl, HG4, hz4, HN4⟩; have HB4 : Hid (Below W0.heap.size W0 w4) := Below.trans (by first | exact HX3.out | exact HX3.out.drew | exact HX3.out.alloc HZ3.out _ | exact HX3.out.drew.alloc HZ3.out _) (HN4.out.mono (by have := HZ3.out; simp; omega)); have HZ4 : Hid (W0.heap.size ≤ w4.heap.size) := HB4.out.size; (try have HFY : Hid (FZ w4 _) := FZ.below HFX.out HN4.out (by have := HFX.out.lt; simpa using this)); (try have HFY : Hid (FZ w4 _) := FZ.below (FZ.new _) HN4.out (by simp)); (try have HFY : Hid (FZ w4 _) := FZ.below (FZ.newd _) HN4.out (by simp)); (try obtain ⟨q0, q1, q2, q3, r0, r1, r2, r3⟩ := HFY.out.facts))
    | (go_at_call 71; refine Calls.mono (HP1.out _ (by first | exact HBD.out | exact HBDA.out _ | exact Below.refl _ _)) ?_; rintro e3 w3 ⟨rfl, HG3, hz3, HN3⟩; have HB3 : Hid (Below W0.heap.size W0 w3) := Below.trans (by first | exact HBD.out | exact HBDA.out _ | exact Below.refl _ _) (HN3.out.mono (by simp)); have HZ3 : Hid (W0.heap.size ≤ w3.heap.size) := HB3.out.size; (try have HFX : Hid (FZ w3 _) := FZ.below (FZ.new _) HN3.out (by simp)); (try have HFX : Hid (FZ w3 _) := FZ.below (FZ.newd _) HN3.out (by simp)))))
  · clear HP1 HP2 HRH hcut
    have hlt3 : W0.heap.size < w3.heap.size := by have := HG3.out.lt; simpa using this
    have HBf : Hid (Below W0.heap.size W0 (w4.alloc (.cells #[.int .i64 (K : Int), .int .i64 (C : Int), .slice (some ⟨W0.heap.size, 0, none⟩) (D - 8) (D - 8), .slice (some ⟨w3.heap.size, 0, none⟩) (S - D) (S - D)] 49))) := HB4.out.alloc HZ4.out _
    have HE1 : Hid (Bl (w4.alloc (.cells #[.int .i64 (K : Int), .int .i64 (C : Int), .slice (some ⟨W0.heap.size, 0, none⟩) (D - 8) (D - 8), .slice (some ⟨w3.heap.size, 0, none⟩) (S - D) (S - D)] 49)) W0.heap.size ((r.drop 8).take (D - 8))) := (Bl.below HG3.out HN4.out hlt3).alloc _
    have HE2 : Hid (Bl (w4.alloc (.cells #[.int .i64 (K : Int), .int .i64 (C : Int), .slice (some ⟨W0.heap.size, 0, none⟩) (D - 8) (D - 8), .slice (some ⟨w3.heap.size, 0, none⟩) (S - D) (S - D)] 49)) w3.heap.size ((r.drop D).take (S - D))) := Bl.alloc HG4.out _
    have HFC : Hid (FB4 (w4.alloc (.cells #[.int .i64 (K : Int), .int .i64 (C : Int), .slice (some ⟨W0.heap.size, 0, none⟩) (D - 8) (D - 8), .slice (some ⟨w3.heap.size, 0, none⟩) (S - D) (S - D)] 49)) w4.heap.size (.int .i64 (K : Int)) (.int .i64 (C : Int)) (.slice (some ⟨W0.heap.size, 0, none⟩) (D - 8) (D - 8)) (.slice (some ⟨w3.heap.size, 0, none⟩) (S - D) (S - D))) := FB4.new _ _ _ _ _
    have hgg : W0.heap.size < w3.heap.size := hlt3
    obtain ⟨Wf, hWf⟩ : ∃ Wf, Wf = (w4.alloc (.cells #[.int .i64 (K : Int), .int .i64 (C : Int), .slice (some ⟨W0.heap.size, 0, none⟩) (D - 8) (D - 8), .slice (some ⟨w3.heap.size, 0, none⟩) (S - D) (S - D)] 49)) := ⟨_, rfl⟩
    obtain ⟨F, hF⟩ : ∃ F, F = w4.heap.size := ⟨_, rfl⟩
    obtain ⟨g1, hg1⟩ : ∃ g1, g1 = W0.heap.size := ⟨_, rfl⟩
    obtain ⟨g2, hg2⟩ : ∃ g2, g2 = w3.heap.size := ⟨_, rfl⟩
    have hFw : w.heap.size < F := by have := HZ3.out; have := HZ4.out; have := HW0S.out; omega
    have hgw : w.heap.size < g1 := by have := HW0S.out; omega
    rw [← hWf] at HBf HE1 HE2 HFC ⊢
    rw [← hg1] at HE1 hgg
    rw [← hg2] at HE2 hgg
    rw [← hg2, ← hg1, ← hF] at HFC
    try rw [← hg2]
    try rw [← hg1]
    try rw [← hF]
    clear hWf hF hg1 hg2 HG3 HG4 HN3 HN4 HB3 HB4 HZ3 HZ4
    obtain ⟨z0, z1, z2, z3, y0, y1, y2, y3⟩ := (HRZ.out Wf HBf.out).facts
    have hH0 := (HH.out Wf HBf.out).1
    obtain ⟨k0', k1', k2', k3'⟩ := HFC.out.cells
    have hne1 : F ≠ w.heap.size := by omega
    have hne2 : H ≠ w.heap.size := by omega
    have HKP : Hid (∀ W : World, (∀ b o, b ≠ w.heap.size → W.cell? ⟨b, o, none⟩ = Wf.cell? ⟨b, o, none⟩) → W.cell? ⟨F, 0, none⟩ = some (.int .i64 (K : Int)) ∧ W.cell? ⟨F, 1, none⟩ = some (.int .i64 (C : Int)) ∧ W.cell? ⟨F, 2, none⟩ = some (.slice (some ⟨g1, 0, none⟩) (D - 8) (D - 8)) ∧ W.cell? ⟨F, 3, none⟩ = some (.slice (some ⟨g2, 0, none⟩) (S - D) (S - D)) ∧ W.cell? ⟨H, 0, none⟩ = some (.int .i64 (S : Int))) := fun W h => ⟨(h F 0 hne1).trans k0', (h F 1 hne1).trans k1', (h F 2 hne1).trans k2', (h F 3 hne1).trans k3', (h H 0 hne2).trans hH0⟩
    have hsum : IntKind.i64.wrap ((i : Int) + (S : Int)) = (i : Int) + (S : Int) := by rw [IntKind.wrap_i64]; omega
    go_wp2
    go_region_held3 (fun W => W.cell? ⟨F, 0, none⟩ = some (.int .i64 (K : Int)) ∧ W.cell? ⟨F, 1, none⟩ = some (.int .i64 (C : Int)) ∧ W.cell? ⟨F, 2, none⟩ = some (.slice (some ⟨g1, 0, none⟩) (D - 8) (D - 8)) ∧ W.cell? ⟨F, 3, none⟩ = some (.slice (some ⟨g2, 0, none⟩) (S - D) (S - D)) ∧ W.cell? ⟨H, 0, none⟩ = some (.int .i64 (S : Int))) (first | exact HKP.out _ (fun b o h => rfl) | exact HKP.out _ (fun b o h => cell_set4 _ _ _ _ _ _ b o h)) (fail)
    go_wp2
    refine bodyPost_ret (v := .tuple #[.agg #[.int .i64 (K : Int), .int .i64 (C : Int), .slice (some ⟨g1, 0, none⟩) (D - 8) (D - 8), .slice (some ⟨g2, 0, none⟩) (S - D) (S - D)], .int .i64 ((i : Int) + (S : Int)), .int .i64 0]) (by simp [results, Try.results67, go_sem, z0, z1, z2, z3]) rfl ⟨g1, g2, rfl, by omega, hgg, ?_, ?_, ?_⟩
    · rw [HX.out]; exact Bl.setOther (Bl.setOther (Bl.setOther (Bl.setOther (show Bl _ _ _ from HE1.out) (by omega) _) (by omega) _) (by omega) _) (by omega) _
    · rw [HY.out]; exact Bl.setOther (Bl.setOther (Bl.setOther (Bl.setOther (show Bl _ _ _ from HE2.out) (by omega) _) (by omega) _) (by omega) _) (by omega) _
    · have hb := HB0.out.trans (HBf.out.mono (by have := HW0S.out; omega))
      first
      | exact below_setAt (below_setAt (below_setAt (below_setAt hb (Nat.le_refl _) 0 _) (Nat.le_refl _) 1 _) (Nat.le_refl _) 2 _) (Nat.le_refl _) 3 _
      | exact below_setAt (below_setAt (below_setAt (below_setAt hb.drew (Nat.le_refl _) 0 _) (Nat.le_refl _) 1 _) (Nat.le_refl _) 2 _) (Nat.le_refl _) 3 _
  · clear HP1 HP2 HRH hcut
    have hlt3 : W0.heap.size < w3.heap.size := by have := HG3.out.lt; simpa using this
    have hG4' : Bl w4 (w3.heap.size + 1) ((r.drop D).take (S - D)) := by have := HG4.out; simpa using this
    have hG3' : Bl w4 W0.heap.size ((r.drop 8).take (D - 8)) := Bl.below (Bl.alloc HG3.out _) HN4.out (by simp; omega)
    have HBf : Hid (Below W0.heap.size W0 ((((w4.setCell ⟨w3.heap.size, 0, none⟩ (.int .i64 (K : Int))).setCell ⟨w3.heap.size, 1, none⟩ (.int .i64 (C : Int))).setCell ⟨w3.heap.size, 2, none⟩ (.slice (some ⟨W0.heap.size, 0, none⟩) (D - 8) (D - 8))).setCell ⟨w3.heap.size, 3, none⟩ (.slice (some ⟨(w3.heap.size + 1), 0, none⟩) (S - D) (S - D)))) := below_setAt (below_setAt (below_setAt (below_setAt HB4.out HZ3.out 0 _) HZ3.out 1 _) HZ3.out 2 _) HZ3.out 3 _
    have HE1 : Hid (Bl ((((w4.setCell ⟨w3.heap.size, 0, none⟩ (.int .i64 (K : Int))).setCell ⟨w3.heap.size, 1, none⟩ (.int .i64 (C : Int))).setCell ⟨w3.heap.size, 2, none⟩ (.slice (some ⟨W0.heap.size, 0, none⟩) (D - 8) (D - 8))).setCell ⟨w3.heap.size, 3, none⟩ (.slice (some ⟨(w3.heap.size + 1), 0, none⟩) (S - D) (S - D))) W0.heap.size ((r.drop 8).take (D - 8))) := (((hG3'.setOther (show w3.heap.size ≠ W0.heap.size by omega) _).setOther (show w3.heap.size ≠ W0.heap.size by omega) _).setOther (show w3.heap.size ≠ W0.heap.size by omega) _).setOther (show w3.heap.size ≠ W0.heap.size by omega) _
    have HE2 : Hid (Bl ((((w4.setCell ⟨w3.heap.size, 0, none⟩ (.int .i64 (K : Int))).setCell ⟨w3.heap.size, 1, none⟩ (.int .i64 (C : Int))).setCell ⟨w3.heap.size, 2, none⟩ (.slice (some ⟨W0.heap.size, 0, none⟩) (D - 8) (D - 8))).setCell ⟨w3.heap.size, 3, none⟩ (.slice (some ⟨(w3.heap.size + 1), 0, none⟩) (S - D) (S - D))) (w3.heap.size + 1) ((r.drop D).take (S - D))) := (((hG4'.setOther (show w3.heap.size ≠ (w3.heap.size + 1) by omega) _).setOther (show w3.heap.size ≠ (w3.heap.size + 1) by omega) _).setOther (show w3.heap.size ≠ (w3.heap.size + 1) by omega) _).setOther (show w3.heap.size ≠ (w3.heap.size + 1) by omega) _
    have HFC : Hid (FB4 ((((w4.setCell ⟨w3.heap.size, 0, none⟩ (.int .i64 (K : Int))).setCell ⟨w3.heap.size, 1, none⟩ (.int .i64 (C : Int))).setCell ⟨w3.heap.size, 2, none⟩ (.slice (some ⟨W0.heap.size, 0, none⟩) (D - 8) (D - 8))).setCell ⟨w3.heap.size, 3, none⟩ (.slice (some ⟨(w3.heap.size + 1), 0, none⟩) (S - D) (S - D))) w3.heap.size (.int .i64 (K : Int)) (.int .i64 (C : Int)) (.slice (some ⟨W0.heap.size, 0, none⟩) (D - 8) (D - 8)) (.slice (some ⟨(w3.heap.size + 1), 0, none⟩) (S - D) (S - D))) := FZ.put HFY.out _ _ _ _
    have hgg : W0.heap.size < (w3.heap.size + 1) := by omega
    clear hG3' hG4' q0 q1 q2 q3 r0 r1 r2 r3
    obtain ⟨Wf, hWf⟩ : ∃ Wf, Wf = ((((w4.setCell ⟨w3.heap.size, 0, none⟩ (.int .i64 (K : Int))).setCell ⟨w3.heap.size, 1, none⟩ (.int .i64 (C : Int))).setCell ⟨w3.heap.size, 2, none⟩ (.slice (some ⟨W0.heap.size, 0, none⟩) (D - 8) (D - 8))).setCell ⟨w3.heap.size, 3, none⟩ (.slice (some ⟨(w3.heap.size + 1), 0, none⟩) (S - D) (S - D))) := ⟨_, rfl⟩
    obtain ⟨F, hF⟩ : ∃ F, F = w3.heap.size := ⟨_, rfl⟩
    obtain ⟨g1, hg1⟩ : ∃ g1, g1 = W0.heap.size := ⟨_, rfl⟩
    obtain ⟨g2, hg2⟩ : ∃ g2, g2 = (w3.heap.size + 1) := ⟨_, rfl⟩
    have hFw : w.heap.size < F := by have := HZ3.out; have := HZ4.out; have := HW0S.out; omega
    have hgw : w.heap.size < g1 := by have := HW0S.out; omega
    rw [← hWf] at HBf HE1 HE2 HFC ⊢
    rw [← hg1] at HE1 hgg
    rw [← hg2] at HE2 hgg
    rw [← hg2, ← hg1, ← hF] at HFC
    try rw [← hg2]
    try rw [← hg1]
    try rw [← hF]
    clear hWf hF hg1 hg2 HG3 HG4 HN3 HN4 HB3 HB4 HZ3 HZ4
    obtain ⟨z0, z1, z2, z3, y0, y1, y2, y3⟩ := (HRZ.out Wf HBf.out).facts
    have hH0 := (HH.out Wf HBf.out).1
    obtain ⟨k0', k1', k2', k3'⟩ := HFC.out.cells
    have hne1 : F ≠ w.heap.size := by omega
    have hne2 : H ≠ w.heap.size := by omega
    have HKP : Hid (∀ W : World, (∀ b o, b ≠ w.heap.size → W.cell? ⟨b, o, none⟩ = Wf.cell? ⟨b, o, none⟩) → W.cell? ⟨F, 0, none⟩ = some (.int .i64 (K : Int)) ∧ W.cell? ⟨F, 1, none⟩ = some (.int .i64 (C : Int)) ∧ W.cell? ⟨F, 2, none⟩ = some (.slice (some ⟨g1, 0, none⟩) (D - 8) (D - 8)) ∧ W.cell? ⟨F, 3, none⟩ = some (.slice (some ⟨g2, 0, none⟩) (S - D) (S - D)) ∧ W.cell? ⟨H, 0, none⟩ = some (.int .i64 (S : Int))) := fun W h => ⟨(h F 0 hne1).trans k0', (h F 1 hne1).trans k1', (h F 2 hne1).trans k2', (h F 3 hne1).trans k3', (h H 0 hne2).trans hH0⟩
    have hsum : IntKind.i64.wrap ((i : Int) + (S : Int)) = (i : Int) + (S : Int) := by rw [IntKind.wrap_i64]; omega
    go_wp2
    go_region_held3 (fun W => W.cell? ⟨F, 0, none⟩ = some (.int .i64 (K : Int)) ∧ W.cell? ⟨F, 1, none⟩ = some (.int .i64 (C : Int)) ∧ W.cell? ⟨F, 2, none⟩ = some (.slice (some ⟨g1, 0, none⟩) (D - 8) (D - 8)) ∧ W.cell? ⟨F, 3, none⟩ = some (.slice (some ⟨g2, 0, none⟩) (S - D) (S - D)) ∧ W.cell? ⟨H, 0, none⟩ = some (.int .i64 (S : Int))) (first | exact HKP.out _ (fun b o h => rfl) | exact HKP.out _ (fun b o h => cell_set4 _ _ _ _ _ _ b o h)) (fail)
    go_wp2
    refine bodyPost_ret (v := .tuple #[.agg #[.int .i64 (K : Int), .int .i64 (C : Int), .slice (some ⟨g1, 0, none⟩) (D - 8) (D - 8), .slice (some ⟨g2, 0, none⟩) (S - D) (S - D)], .int .i64 ((i : Int) + (S : Int)), .int .i64 0]) (by simp [results, Try.results67, go_sem, z0, z1, z2, z3]) rfl ⟨g1, g2, rfl, by omega, hgg, ?_, ?_, ?_⟩
    · rw [HX.out]; exact Bl.setOther (Bl.setOther (Bl.setOther (Bl.setOther (show Bl _ _ _ from HE1.out) (by omega) _) (by omega) _) (by omega) _) (by omega) _
    · rw [HY.out]; exact Bl.setOther (Bl.setOther (Bl.setOther (Bl.setOther (show Bl _ _ _ from HE2.out) (by omega) _) (by omega) _) (by omega) _) (by omega) _
    · have hb := HB0.out.trans (HBf.out.mono (by have := HW0S.out; omega))
      first
      | exact below_setAt (below_setAt (below_setAt (below_setAt hb (Nat.le_refl _) 0 _) (Nat.le_refl _) 1 _) (Nat.le_refl _) 2 _) (Nat.le_refl _) 3 _
      | exact below_setAt (below_setAt (below_setAt (below_setAt hb.drew (Nat.le_refl _) 0 _) (Nat.le_refl _) 1 _) (Nat.le_refl _) 2 _) (Nat.le_refl _) 3 _
  · clear HP1 HP2 HRH hcut
    have hG3w : Bl w3 (W0.heap.size + 1) ((r.drop 8).take (D - 8)) := by have := HG3.out; simpa using this
    have hlt3 : W0.heap.size + 1 < w3.heap.size := hG3w.lt
    have hG4' : Bl w4 w3.heap.size ((r.drop D).take (S - D)) := by have := HG4.out; simpa using this
    have hG3' : Bl w4 (W0.heap.size + 1) ((r.drop 8).take (D - 8)) := Bl.below hG3w HN4.out (by simpa using hlt3)
    have HBf : Hid (Below W0.heap.size W0 ((((w4.setCell ⟨W0.heap.size, 0, none⟩ (.int .i64 (K : Int))).setCell ⟨W0.heap.size, 1, none⟩ (.int .i64 (C : Int))).setCell ⟨W0.heap.size, 2, none⟩ (.slice (some ⟨(W0.heap.size + 1), 0, none⟩) (D - 8) (D - 8))).setCell ⟨W0.heap.size, 3, none⟩ (.slice (some ⟨w3.heap.size, 0, none⟩) (S - D) (S - D)))) := below_setAt (below_setAt (below_setAt (below_setAt HB4.out (Nat.le_refl _) 0 _) (Nat.le_refl _) 1 _) (Nat.le_refl _) 2 _) (Nat.le_refl _) 3 _
    have HE1 : Hid (Bl ((((w4.setCell ⟨W0.heap.size, 0, none⟩ (.int .i64 (K : Int))).setCell ⟨W0.heap.size, 1, none⟩ (.int .i64 (C : Int))).setCell ⟨W0.heap.size, 2, none⟩ (.slice (some ⟨(W0.heap.size + 1), 0, none⟩) (D - 8) (D - 8))).setCell ⟨W0.heap.size, 3, none⟩ (.slice (some ⟨w3.heap.size, 0, none⟩) (S - D) (S - D))) (W0.heap.size + 1) ((r.drop 8).take (D - 8))) := (((hG3'.setOther (show W0.heap.size ≠ (W0.heap.size + 1) by omega) _).setOther (show W0.heap.size ≠ (W0.heap.size + 1) by omega) _).setOther (show W0.heap.size ≠ (W0.heap.size + 1) by omega) _).setOther (show W0.heap.size ≠ (W0.heap.size + 1) by omega) _
    have HE2 : Hid (Bl ((((w4.setCell ⟨W0.heap.size, 0, none⟩ (.int .i64 (K : Int))).setCell ⟨W0.heap.size, 1, none⟩ (.int .i64 (C : Int))).setCell ⟨W0.heap.size, 2, none⟩ (.slice (some ⟨(W0.heap.size + 1), 0, none⟩) (D - 8) (D - 8))).setCell ⟨W0.heap.size, 3, none⟩ (.slice (some ⟨w3.heap.size, 0, none⟩) (S - D) (S - D))) w3.heap.size ((r.drop D).take (S - D))) := (((hG4'.setOther (show W0.heap.size ≠ w3.heap.size by omega) _).setOther (show W0.heap.size ≠ w3.heap.size by omega) _).setOther (show W0.heap.size ≠ w3.heap.size by omega) _).setOther (show W0.heap.size ≠ w3.heap.size by omega) _
    have HFC : Hid (FB4 ((((w4.setCell ⟨W0.heap.size, 0, none⟩ (.int .i64 (K : Int))).setCell ⟨W0.heap.size, 1, none⟩ (.int .i64 (C : Int))).setCell ⟨W0.heap.size, 2, none⟩ (.slice (some ⟨(W0.heap.size + 1), 0, none⟩) (D - 8) (D - 8))).setCell ⟨W0.heap.size, 3, none⟩ (.slice (some ⟨w3.heap.size, 0, none⟩) (S - D) (S - D))) W0.heap.size (.int .i64 (K : Int)) (.int .i64 (C : Int)) (.slice (some ⟨(W0.heap.size + 1), 0, none⟩) (D - 8) (D - 8)) (.slice (some ⟨w3.heap.size, 0, none⟩) (S - D) (S - D))) := FZ.put HFY.out _ _ _ _
    have hgg : (W0.heap.size + 1) < w3.heap.size := by omega
    clear hG3' hG4' q0 q1 q2 q3 r0 r1 r2 r3
    obtain ⟨Wf, hWf⟩ : ∃ Wf, Wf = ((((w4.setCell ⟨W0.heap.size, 0, none⟩ (.int .i64 (K : Int))).setCell ⟨W0.heap.size, 1, none⟩ (.int .i64 (C : Int))).setCell ⟨W0.heap.size, 2, none⟩ (.slice (some ⟨(W0.heap.size + 1), 0, none⟩) (D - 8) (D - 8))).setCell ⟨W0.heap.size, 3, none⟩ (.slice (some ⟨w3.heap.size, 0, none⟩) (S - D) (S - D))) := ⟨_, rfl⟩
    obtain ⟨F, hF⟩ : ∃ F, F = W0.heap.size := ⟨_, rfl⟩
    obtain ⟨g1, hg1⟩ : ∃ g1, g1 = (W0.heap.size + 1) := ⟨_, rfl⟩
    obtain ⟨g2, hg2⟩ : ∃ g2, g2 = w3.heap.size := ⟨_, rfl⟩
    have hFw : w.heap.size < F := by have := HZ3.out; have := HZ4.out; have := HW0S.out; omega
    have hgw : w.heap.size < g1 := by have := HW0S.out; omega
    rw [← hWf] at HBf HE1 HE2 HFC ⊢
    rw [← hg1] at HE1 hgg
    rw [← hg2] at HE2 hgg
    rw [← hg2, ← hg1, ← hF] at HFC
    try rw [← hg2]
    try rw [← hg1]
    try rw [← hF]
    clear hWf hF hg1 hg2 HG3 HG4 HN3 HN4 HB3 HB4 HZ3 HZ4
    obtain ⟨z0, z1, z2, z3, y0, y1, y2, y3⟩ := (HRZ.out Wf HBf.out).facts
    have hH0 := (HH.out Wf HBf.out).1
    obtain ⟨k0', k1', k2', k3'⟩ := HFC.out.cells
    have hne1 : F ≠ w.heap.size := by omega
    have hne2 : H ≠ w.heap.size := by omega
    have HKP : Hid (∀ W : World, (∀ b o, b ≠ w.heap.size → W.cell? ⟨b, o, none⟩ = Wf.cell? ⟨b, o, none⟩) → W.cell? ⟨F, 0, none⟩ = some (.int .i64 (K : Int)) ∧ W.cell? ⟨F, 1, none⟩ = some (.int .i64 (C : Int)) ∧ W.cell? ⟨F, 2, none⟩ = some (.slice (some ⟨g1, 0, none⟩) (D - 8) (D - 8)) ∧ W.cell? ⟨F, 3, none⟩ = some (.slice (some ⟨g2, 0, none⟩) (S - D) (S - D)) ∧ W.cell? ⟨H, 0, none⟩ = some (.int .i64 (S : Int))) := fun W h => ⟨(h F 0 hne1).trans k0', (h F 1 hne1).trans k1', (h F 2 hne1).trans k2', (h F 3 hne1).trans k3', (h H 0 hne2).trans hH0⟩
    have hsum : IntKind.i64.wrap ((i : Int) + (S : Int)) = (i : Int) + (S : Int) := by rw [IntKind.wrap_i64]; omega
    go_wp2
    go_region_held3 (fun W => W.cell? ⟨F, 0, none⟩ = some (.int .i64 (K : Int)) ∧ W.cell? ⟨F, 1, none⟩ = some (.int .i64 (C : Int)) ∧ W.cell? ⟨F, 2, none⟩ = some (.slice (some ⟨g1, 0, none⟩) (D - 8) (D - 8)) ∧ W.cell? ⟨F, 3, none⟩ = some (.slice (some ⟨g2, 0, none⟩) (S - D) (S - D)) ∧ W.cell? ⟨H, 0, none⟩ = some (.int .i64 (S : Int))) (first | exact HKP.out _ (fun b o h => rfl) | exact HKP.out _ (fun b o h => cell_set4 _ _ _ _ _ _ b o h)) (fail)
    go_wp2
    refine bodyPost_ret (v := .tuple #[.agg #[.int .i64 (K : Int), .int .i64 (C : Int), .slice (some ⟨g1, 0, none⟩) (D - 8) (D - 8), .slice (some ⟨g2, 0, none⟩) (S - D) (S - D)], .int .i64 ((i : Int) + (S : Int)), .int .i64 0]) (by simp [results, Try.results67, go_sem, z0, z1, z2, z3]) rfl ⟨g1, g2, rfl, by omega, hgg, ?_, ?_, ?_⟩
    · rw [HX.out]; exact Bl.setOther (Bl.setOther (Bl.setOther (Bl.setOther (show Bl _ _ _ from HE1.out) (by omega) _) (by omega) _) (by omega) _) (by omega) _
    · rw [HY.out]; exact Bl.setOther (Bl.setOther (Bl.setOther (Bl.setOther (show Bl _ _ _ from HE2.out) (by omega) _) (by omega) _) (by omega) _) (by omega) _
    · have hb := HB0.out.trans (HBf.out.mono (by have := HW0S.out; omega))
      first
      | exact below_setAt (below_setAt (below_setAt (below_setAt hb (Nat.le_refl _) 0 _) (Nat.le_refl _) 1 _) (Nat.le_refl _) 2 _) (Nat.le_refl _) 3 _
      | exact below_setAt (below_setAt (below_setAt (below_setAt hb.drew (Nat.le_refl _) 0 _) (Nat.le_refl _) 1 _) (Nat.le_refl _) 2 _) (Nat.le_refl _) 3 _
end Go.Proofs.Ytaijcnkmklibcaa
