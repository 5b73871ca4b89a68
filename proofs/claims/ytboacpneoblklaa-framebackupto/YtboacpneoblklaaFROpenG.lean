/- The document's Open: what is read. -/
import Derived.Test.YtboacpneoblklaaFROpen
import Derived.Test.YtboacpneoblklaaFApp2
namespace Go.Proofs.Ytboacpneoblklaa
open Go.RowKit Go.Deep
set_option linter.unusedVariables false
set_option linter.unusedSimpArgs false

theorem rd_set {w : World} {a : Option Addr} {n : Nat} {l : List Nat} (h : Rd w a n l) (F o : Nat) (v : Value) (hne : ∀ b o', a = some ⟨b, o', none⟩ → b ≠ F) : Rd (w.setCell ⟨F, o, none⟩ v) a n l := by
  obtain ⟨h1, h2, h3⟩ := h
  refine ⟨h1, h2, fun hn => ?_⟩
  obtain ⟨b, off, ha, hlt, hc⟩ := h3 hn
  have hn' : F ≠ b := fun e => hne b off ha e.symm
  exact ⟨b, off, ha, by simpa using hlt, fun j hj => (World.cell?_of_block (a := ⟨b, off + j, none⟩) (by simp [World.setCell, Array.getElem?_modify, hn'])).trans (hc j hj)⟩
theorem FB4.frozen {w : World} {F : Nat} {v0 v1 v2 v3 : Value} (h : FB4 w F v0 v1 v2 v3) : w.frozen? ⟨F, 0, none⟩ = false ∧ w.frozen? ⟨F, 1, none⟩ = false ∧ w.frozen? ⟨F, 2, none⟩ = false ∧ w.frozen? ⟨F, 3, none⟩ = false := by
  unfold FB4 at h
  simp [World.frozen?, h]
theorem FB4.set2 {w : World} {F : Nat} {v0 v1 v2 v3 : Value} (h : FB4 w F v0 v1 v2 v3) (v : Value) : FB4 (w.setCell ⟨F, 2, none⟩ v) F v0 v1 v v3 := by
  unfold FB4 at *
  simp [World.setCell, Array.getElem?_modify, h]
theorem FB4.set3 {w : World} {F : Nat} {v0 v1 v2 v3 : Value} (h : FB4 w F v0 v1 v2 v3) (v : Value) : FB4 (w.setCell ⟨F, 3, none⟩ v) F v0 v1 v2 v := by
  unfold FB4 at *
  simp [World.setCell, Array.getElem?_modify, h]
theorem FZ.setOther {w : World} {F G : Nat} (h : FZ w F) (hne : G ≠ F) (o : Nat) (v : Value) : FZ (w.setCell ⟨G, o, none⟩ v) F := by
  unfold FZ at *
  rw [← h]
  simp [World.setCell, Array.getElem?_modify, hne]

set_option maxRecDepth 100000 in
set_option maxHeartbeats 4000000 in
theorem refopen_ok0 (a : Option Addr) (n cap i : Nat) (most : Int) (l : List Nat) (w : World) (hr : Rd w a n l) (hn : n ≤ 281474976710656) (hnc : n ≤ cap) (hi : i ≤ n) (hm0 : 512 ≤ most) (hm1 : most ≤ 1048576) (k1 : 6 ≤ n - i) (k2 : 8 ≤ hSize (l.drop i)) (k3 : (hSize (l.drop i) : Int) ≤ most) (k4 : 8 ≤ hBegin (l.drop i)) (k5 : hBegin (l.drop i) ≤ hSize (l.drop i)) (k6 : hKind (l.drop i) = 0) (k7 : hSize (l.drop i) ≤ n - i) :
    Calls Try.prog 15 #[.slice a n cap, .int .i64 (i : Int), .int .i64 most] w fun e w' => ∃ a1 c1 a2 c2, e = .returned (.tuple #[frV (hKind (l.drop i)) (hChan (l.drop i)) a1 (hBegin (l.drop i) - 8) c1 a2 (hSize (l.drop i) - hBegin (l.drop i)) c2, .int .i64 ((i : Int) + (hSize (l.drop i) : Int)), .int .i64 0]) ∧
      Rd w' a1 (hBegin (l.drop i) - 8) (exL (l.drop i)) ∧ Rd w' a2 (hSize (l.drop i) - hBegin (l.drop i)) (boL (l.drop i)) ∧ Below w.heap.size w w' := by
  have hlt := hr.2.1
  have hb4 := getD_lt (l := l.drop i) (fun c hc => hlt c (List.mem_of_mem_drop hc)) 4
  have HN0 := hide (fun W (hW : Rd W a n l) => refnum_any a n cap i 4 l W (by omega) (by omega) hn hW (i : Int) 4 rfl rfl)
  change Hid (∀ W, _ → Calls _ _ _ W fun e w' => e = .returned (.int .i64 ((hSize (l.drop i) : Nat) : Int)) ∧ _) at HN0
  obtain ⟨O, hO⟩ : ∃ O, O = (l.drop i).getD 4 0 := ⟨_, rfl⟩
  have HBD : hBegin (l.drop i) = O * 4 := by rw [hO]; rfl
  have hK0 : (l.drop i).getD 5 0 = 0 := k6
  rw [← hO] at hb4
  have HCH : hChan (l.drop i) = getN ((l.drop (i + 6)).take 2) := by unfold hChan; rw [if_pos hK0, List.drop_drop]
  have hcl : getN ((l.drop (i + 6)).take 2) < 65536 := by
    have g2 := getN_lt ((l.drop (i + 6)).take 2) (fun c hc => hlt c (List.mem_of_mem_drop (List.mem_of_mem_take hc)))
    have g3 : 256 ^ ((l.drop (i + 6)).take 2).length ≤ 256 ^ 2 := Nat.pow_le_pow_right (by omega) (by rw [List.length_take]; omega)
    have g4 : (256 : Nat) ^ 2 = 65536 := by decide
    omega
  have HN6 := hide (fun W (hW : Rd W a n l) => refnum_any a n cap (i + 6) 2 l W (by omega) (by omega) hn hW ((i : Int) + 6) 2 (by omega) rfl)
  rw [HCH, k6]
  generalize getN ((l.drop (i + 6)).take 2) = C at *
  obtain ⟨S, hS⟩ : ∃ S, S = hSize (l.drop i) := ⟨_, rfl⟩
  have HX : Hid (exL (l.drop i) = (l.drop (i + 8)).take (O * 4 - 8)) := by show _ = _; unfold exL; rw [HBD, List.drop_drop]
  have HY : Hid (boL (l.drop i) = (l.drop (i + O * 4)).take (S - O * 4)) := by show _ = _; unfold boL; rw [HBD, ← hS, List.drop_drop]
  rw [HBD, ← hS] at k5
  rw [HBD] at k4
  rw [← hS] at k2 k3 k7 HN0
  rw [HBD, ← hS]
  rw [drop_getD] at hO hK0
  obtain ⟨b, off, rfl, hblt, hcc⟩ := hr.2.2 (by omega)
  have hc4 : ∀ o : Obj, (w.alloc o).cell? ⟨b, off + (i + 4), none⟩ = some (.int .u8 (O : Int)) := fun o => by rw [World.cell?_alloc_past _ _ _ hblt, hcc (i + 4) (by omega), hO]
  have hc5 : ∀ o : Obj, (w.alloc o).cell? ⟨b, off + (i + 5), none⟩ = some (.int .u8 0) := fun o => by rw [World.cell?_alloc_past _ _ _ hblt, hcc (i + 5) (by omega), hK0]; rfl
  have HRD := hide hr
  have hx4 : (i : Int) + 4 < (n : Int) := by omega
  have hx5 : (i : Int) + 5 < (n : Int) := by omega
  have h1m : ¬ most < 512 := by omega
  have hO64 : O * 4 ≤ 1048576 := by omega
  have hSm : S ≤ 1048576 := by omega
  obtain ⟨d1, hd1, hs1⟩ := cut2 ⟨b, off, none⟩ n cap (i + 8) (i + O * 4) ((i : Int) + 8) ((i : Int) + 4 * (O : Int)) (by omega) (by omega) (by omega) (by omega)
  obtain ⟨d2, hd2, hs2⟩ := cut2 ⟨b, off, none⟩ n cap (i + O * 4) (i + S) ((i : Int) + 4 * (O : Int)) ((i : Int) + (S : Int)) (by omega) (by omega) (by omega) (by omega)
  rw [show i + O * 4 - (i + 8) = O * 4 - 8 by omega] at hs1
  rw [show i + S - (i + O * 4) = S - O * 4 by omega] at hs2
  have HR1 : Hid (∀ W, Below w.heap.size w W → Rd W (some d1) (O * 4 - 8) ((l.drop (i + 8)).take (O * 4 - 8))) := fun W hW => (HRD.out.below hW).cut (by omega) (fun h0 b' off' h => by rw [hd1 (by omega)]; simp only [Option.some.injEq] at h; rw [h, add_none])
  have HR2 : Hid (∀ W, Below w.heap.size w W → Rd W (some d2) (S - O * 4) ((l.drop (i + O * 4)).take (S - O * 4))) := fun W hW => (HRD.out.below hW).cut (by omega) (fun h0 b' off' h => by rw [hd2 (by omega)]; simp only [Option.some.injEq] at h; rw [h, add_none])
  have HL1 : Hid (∀ c ∈ (l.drop (i + 8)).take (O * 4 - 8), c < 256) := fun c hc => hlt c (List.mem_of_mem_drop (List.mem_of_mem_take hc))
  have HL2 : Hid (∀ c ∈ (l.drop (i + O * 4)).take (S - O * 4), c < 256) := fun c hc => hlt c (List.mem_of_mem_drop (List.mem_of_mem_take hc))
  clear hr hO hK0 hcc hlt hd1 hd2 HCH hS HBD k6
  generalize (l.drop (i + 8)).take (O * 4 - 8) = X1 at *
  generalize (l.drop (i + O * 4)).take (S - O * 4) = X2 at *
  obtain ⟨D, hD⟩ : ∃ D, D = O * 4 := ⟨_, rfl⟩
  have hDi : 4 * (O : Int) = (D : Int) := by omega
  rw [← hD] at k4 k5 hO64 hs1 hs2 HR1 HR2 ⊢
  rw [hDi] at hs1 hs2
  clear hD
  unfold frV
  have hw1 : IntKind.i64.wrap ((i : Int) + 8) = (i : Int) + 8 := by rw [IntKind.wrap_i64]; omega
  have hw2 : IntKind.i64.wrap ((i : Int) + (D : Int)) = (i : Int) + (D : Int) := by rw [IntKind.wrap_i64]; omega
  have hw3 : IntKind.i64.wrap ((i : Int) + (S : Int)) = (i : Int) + (S : Int) := by rw [IntKind.wrap_i64]; omega
  go_enter Try.func15, Try.ntmps15
  go_wp2_with fail
  refine (HN0.out _ (HRD.out.below (below_box w _))).mono ?_
  rintro e w0 ⟨rfl, rfl⟩
  go_wp2_with fail
  refine (HN6.out _ (HRD.out.below ((below_box w _).alloc (by simp) _))).mono ?_
  rintro e w0 ⟨rfl, rfl⟩
  go_wp2
  obtain ⟨F, hF⟩ : ∃ F, F = w.heap.size + 1 := ⟨_, rfl⟩
  obtain ⟨WA, hWA⟩ : ∃ WA, WA = (w.alloc (.cells #[.int .i64 0, .int .i64 0, .slice none 0 0, .slice none 0 0] 24)).alloc (.cells #[.int .i64 0, .int .i64 (C : Int), .slice none 0 0, .slice none 0 0] 24) := ⟨_, rfl⟩
  have hWAs : WA.heap.size = F + 1 := by rw [hWA, hF]; simp
  have HFA : Hid (FB4 WA F (.int .i64 0) (.int .i64 (C : Int)) (.slice none 0 0) (.slice none 0 0)) := by
    rw [hWA, hF]
    have h := FB4.new (w.alloc (.cells #[.int .i64 0, .int .i64 0, .slice none 0 0, .slice none 0 0] 24)) (.int .i64 0) (.int .i64 (C : Int)) (.slice none 0 0) (.slice none 0 0)
    simpa [Hid] using h
  have HRZ : Hid (FZ WA w.heap.size) := by
    rw [hWA]
    exact FZ.below (FZ.new w) (below_box _ _) (by simp)
  have HBA : Hid (Below w.heap.size w WA) := by rw [hWA]; exact (below_box w _).alloc (by simp) _
  rw [← hWA, ← hF]
  have hFw : w.heap.size < F := by omega
  have HFE := hide hF
  have HWS := hide hWAs
  clear hWA hF hWAs hx4 hx5 hc4 hc5 HN0
  obtain ⟨q0, q1, q2, q3⟩ := HFA.out.cells
  have hz0 : F + 1 ≤ WA.heap.size := by have := HWS.out; omega
  have HBD1 : Hid (Below WA.heap.size WA WA.drew) := (Below.refl _ _).drew
  go_region_law ((first
    | (refine step_append_any rfl (.tmp 93) (.tmp 100) rfl WA.heap.size (.slice none 0 0) 0 [] (by first | rfl | simp [Act.eval, Act.put]) (World.ownsRow_nil _ _ _ _) d1 (D - 8) (cap - (i + 8)) X1 (by first | rfl | simp [Act.eval, Act.put]) (HR1.out _ (by first | exact HBA.out.drew | exact HBA.out)) (by omega) (by first | exact Nat.le_refl _ | simp) ?_; intro v1 w1 r1 r2; simp only [Nat.zero_add, List.nil_append] at r1; obtain ⟨a1, c1, rfl, hab1, hnc1, hrd1⟩ := Rd.of_own0 r1 HL1.out; have HB1 : Hid (Below WA.heap.size WA w1) := (by first | exact HBD1.out.grown r2 (Nat.le_refl _) (fun k hk => by cases hk) | exact (Below.refl _ _).grown r2 (Nat.le_refl _) (fun k hk => by cases hk)); have HF1 : Hid (FB4 w1 F (.int .i64 0) (.int .i64 (C : Int)) (.slice none 0 0) (.slice none 0 0)) := (HB1.out.block F (by omega)).trans HFA.out; obtain ⟨t0, t1, t2, t3⟩ := HF1.out.cells; obtain ⟨f0, f1, f2, f3⟩ := HF1.out.frozen; have HRD1 := hide hrd1; have HAB1 := hide hab1; clear r1 r2 hrd1 hab1)))
  have hs1' : WA.heap.size ≤ w1.heap.size := HB1.out.size
  have HF2 : Hid (FB4 (w1.setCell ⟨F, 2, none⟩ (.slice a1 (D - 8) c1)) F (.int .i64 0) (.int .i64 (C : Int)) (.slice a1 (D - 8) c1) (.slice none 0 0)) := HF1.out.set2 _
  have HZ2 : Hid (FZ (w1.setCell ⟨F, 2, none⟩ (.slice a1 (D - 8) c1)) w.heap.size) := FZ.setOther (FZ.below HRZ.out HB1.out (by omega)) (by omega) _ _
  have HBW2 : Hid (Below w.heap.size w (w1.setCell ⟨F, 2, none⟩ (.slice a1 (D - 8) c1))) := below_setAt (HBA.out.trans (HB1.out.mono (by omega))) (by omega) 2 _
  have HA2 : Hid (Rd (w1.setCell ⟨F, 2, none⟩ (.slice a1 (D - 8) c1)) a1 (D - 8) X1) := rd_set HRD1.out _ _ _ (fun b' o' h => by have := (HAB1.out b' o' h).1; omega)
  obtain ⟨W2, hW2⟩ : ∃ W2, W2 = w1.setCell ⟨F, 2, none⟩ (.slice a1 (D - 8) c1) := ⟨_, rfl⟩
  have hs2' : F + 1 ≤ W2.heap.size := by rw [hW2]; simp; omega
  rw [← hW2] at HF2 HZ2 HBW2 HA2 ⊢
  clear hW2 t0 t1 t2 t3 f0 f1 f2 f3 q0 q1 q2 q3 HF1 HB1 HFA HRZ HBA HRD1 hs1
  obtain ⟨q0, q1, q2, q3⟩ := HF2.out.cells
  have HBD2 : Hid (Below W2.heap.size W2 W2.drew) := (Below.refl _ _).drew
  go_wp2
  go_region_law ((first
    | (refine step_append_any rfl (.tmp 104) (.tmp 112) rfl W2.heap.size (.slice none 0 0) 0 [] (by first | rfl | simp [Act.eval, Act.put]) (World.ownsRow_nil _ _ _ _) d2 (S - D) (cap - (i + D)) X2 (by first | rfl | simp [Act.eval, Act.put]) (HR2.out _ (by first | exact HBW2.out.drew | exact HBW2.out)) (by omega) (by first | exact Nat.le_refl _ | simp) ?_; intro v2 w3 r1 r2; simp only [Nat.zero_add, List.nil_append] at r1; obtain ⟨a2, c2, rfl, hab2, hnc2, hrd2⟩ := Rd.of_own0 r1 HL2.out; have HB3 : Hid (Below W2.heap.size W2 w3) := (by first | exact HBD2.out.grown r2 (Nat.le_refl _) (fun k hk => by cases hk) | exact (Below.refl _ _).grown r2 (Nat.le_refl _) (fun k hk => by cases hk)); have HF3 : Hid (FB4 w3 F (.int .i64 0) (.int .i64 (C : Int)) (.slice a1 (D - 8) c1) (.slice none 0 0)) := (HB3.out.block F (by omega)).trans HF2.out; obtain ⟨t0, t1, t2, t3⟩ := HF3.out.cells; obtain ⟨f0, f1, f2, f3⟩ := HF3.out.frozen; have HRD2 := hide hrd2; have HAB2 := hide hab2; clear r1 r2 hrd2 hab2)))
  have HF4 : Hid (FB4 (w3.setCell ⟨F, 3, none⟩ (.slice a2 (S - D) c2)) F (.int .i64 0) (.int .i64 (C : Int)) (.slice a1 (D - 8) c1) (.slice a2 (S - D) c2)) := HF3.out.set3 _
  have HZ4 : Hid (FZ (w3.setCell ⟨F, 3, none⟩ (.slice a2 (S - D) c2)) w.heap.size) := FZ.setOther (FZ.below HZ2.out HB3.out (by omega)) (by omega) _ _
  have HBW4 : Hid (Below w.heap.size w (w3.setCell ⟨F, 3, none⟩ (.slice a2 (S - D) c2))) := below_setAt (HBW2.out.trans (HB3.out.mono (by omega))) (by omega) 3 _
  have HA4 : Hid (Rd (w3.setCell ⟨F, 3, none⟩ (.slice a2 (S - D) c2)) a1 (D - 8) X1) := rd_set (HA2.out.below HB3.out) _ _ _ (fun b' o' h => by have := (HAB1.out b' o' h).1; omega)
  have HC4 : Hid (Rd (w3.setCell ⟨F, 3, none⟩ (.slice a2 (S - D) c2)) a2 (S - D) X2) := rd_set HRD2.out _ _ _ (fun b' o' h => by have := (HAB2.out b' o' h).1; omega)
  obtain ⟨W4, hW4⟩ : ∃ W4, W4 = w3.setCell ⟨F, 3, none⟩ (.slice a2 (S - D) c2) := ⟨_, rfl⟩
  rw [← hW4] at HF4 HZ4 HBW4 HA4 HC4 ⊢
  clear hW4 t0 t1 t2 t3 f0 f1 f2 f3 q0 q1 q2 q3 HF3 HB3 HF2 HZ2 HBW2 HA2 HRD2 hs2
  obtain ⟨q0, q1, q2, q3⟩ := HF4.out.cells
  obtain ⟨z0, z1, z2, z3, y0, y1, y2, y3⟩ := HZ4.out.facts
  have hne1 : F ≠ w.heap.size := by omega
  go_wp2
  refine bodyPost_ret (v := .tuple #[.agg #[.int .i64 0, .int .i64 (C : Int), .slice a1 (D - 8) c1, .slice a2 (S - D) c2], .int .i64 ((i : Int) + (S : Int)), .int .i64 0]) (by simp [results, Try.results15, go_sem, z0, z1, z2, z3]) rfl ⟨a1, c1, a2, c2, rfl, ?_, ?_, ?_⟩
  · rw [HX.out]; exact rd_set (rd_set (rd_set (rd_set HA4.out _ _ _ (fun b' o' h => by have := (HAB1.out b' o' h).1; omega)) _ _ _ (fun b' o' h => by have := (HAB1.out b' o' h).1; omega)) _ _ _ (fun b' o' h => by have := (HAB1.out b' o' h).1; omega)) _ _ _ (fun b' o' h => by have := (HAB1.out b' o' h).1; omega)
  · rw [HY.out]; exact rd_set (rd_set (rd_set (rd_set HC4.out _ _ _ (fun b' o' h => by have := (HAB2.out b' o' h).1; omega)) _ _ _ (fun b' o' h => by have := (HAB2.out b' o' h).1; omega)) _ _ _ (fun b' o' h => by have := (HAB2.out b' o' h).1; omega)) _ _ _ (fun b' o' h => by have := (HAB2.out b' o' h).1; omega)
  · exact below_setAt (below_setAt (below_setAt (below_setAt HBW4.out (Nat.le_refl _) 0 _) (Nat.le_refl _) 1 _) (Nat.le_refl _) 2 _) (Nat.le_refl _) 3 _

set_option maxRecDepth 100000 in
set_option maxHeartbeats 4000000 in
theorem refopen_ok1 (a : Option Addr) (n cap i : Nat) (most : Int) (l : List Nat) (w : World) (hr : Rd w a n l) (hn : n ≤ 281474976710656) (hnc : n ≤ cap) (hi : i ≤ n) (hm0 : 512 ≤ most) (hm1 : most ≤ 1048576) (k1 : 6 ≤ n - i) (k2 : 8 ≤ hSize (l.drop i)) (k3 : (hSize (l.drop i) : Int) ≤ most) (k4 : 8 ≤ hBegin (l.drop i)) (k5 : hBegin (l.drop i) ≤ hSize (l.drop i)) (k6 : hKind (l.drop i) = 1) (k7 : hSize (l.drop i) ≤ n - i) :
    Calls Try.prog 15 #[.slice a n cap, .int .i64 (i : Int), .int .i64 most] w fun e w' => ∃ a1 c1 a2 c2, e = .returned (.tuple #[frV (hKind (l.drop i)) (hChan (l.drop i)) a1 (hBegin (l.drop i) - 8) c1 a2 (hSize (l.drop i) - hBegin (l.drop i)) c2, .int .i64 ((i : Int) + (hSize (l.drop i) : Int)), .int .i64 0]) ∧
      Rd w' a1 (hBegin (l.drop i) - 8) (exL (l.drop i)) ∧ Rd w' a2 (hSize (l.drop i) - hBegin (l.drop i)) (boL (l.drop i)) ∧ Below w.heap.size w w' := by
  have hlt := hr.2.1
  have hb4 := getD_lt (l := l.drop i) (fun c hc => hlt c (List.mem_of_mem_drop hc)) 4
  have HN0 := hide (fun W (hW : Rd W a n l) => refnum_any a n cap i 4 l W (by omega) (by omega) hn hW (i : Int) 4 rfl rfl)
  change Hid (∀ W, _ → Calls _ _ _ W fun e w' => e = .returned (.int .i64 ((hSize (l.drop i) : Nat) : Int)) ∧ _) at HN0
  obtain ⟨O, hO⟩ : ∃ O, O = (l.drop i).getD 4 0 := ⟨_, rfl⟩
  have HBD : hBegin (l.drop i) = O * 4 := by rw [hO]; rfl
  have hK0 : (l.drop i).getD 5 0 = 1 := k6
  rw [← hO] at hb4
  have HCH : hChan (l.drop i) = 0 := by unfold hChan; rw [if_neg (by omega)]
  rw [HCH, k6]
  obtain ⟨S, hS⟩ : ∃ S, S = hSize (l.drop i) := ⟨_, rfl⟩
  have HX : Hid (exL (l.drop i) = (l.drop (i + 8)).take (O * 4 - 8)) := by show _ = _; unfold exL; rw [HBD, List.drop_drop]
  have HY : Hid (boL (l.drop i) = (l.drop (i + O * 4)).take (S - O * 4)) := by show _ = _; unfold boL; rw [HBD, ← hS, List.drop_drop]
  rw [HBD, ← hS] at k5
  rw [HBD] at k4
  rw [← hS] at k2 k3 k7 HN0
  rw [HBD, ← hS]
  rw [drop_getD] at hO hK0
  obtain ⟨b, off, rfl, hblt, hcc⟩ := hr.2.2 (by omega)
  have hc4 : ∀ o : Obj, (w.alloc o).cell? ⟨b, off + (i + 4), none⟩ = some (.int .u8 (O : Int)) := fun o => by rw [World.cell?_alloc_past _ _ _ hblt, hcc (i + 4) (by omega), hO]
  have hc5 : ∀ o : Obj, (w.alloc o).cell? ⟨b, off + (i + 5), none⟩ = some (.int .u8 1) := fun o => by rw [World.cell?_alloc_past _ _ _ hblt, hcc (i + 5) (by omega), hK0]; rfl
  have HRD := hide hr
  have hx4 : (i : Int) + 4 < (n : Int) := by omega
  have hx5 : (i : Int) + 5 < (n : Int) := by omega
  have h1m : ¬ most < 512 := by omega
  have hO64 : O * 4 ≤ 1048576 := by omega
  have hSm : S ≤ 1048576 := by omega
  obtain ⟨d1, hd1, hs1⟩ := cut2 ⟨b, off, none⟩ n cap (i + 8) (i + O * 4) ((i : Int) + 8) ((i : Int) + 4 * (O : Int)) (by omega) (by omega) (by omega) (by omega)
  obtain ⟨d2, hd2, hs2⟩ := cut2 ⟨b, off, none⟩ n cap (i + O * 4) (i + S) ((i : Int) + 4 * (O : Int)) ((i : Int) + (S : Int)) (by omega) (by omega) (by omega) (by omega)
  rw [show i + O * 4 - (i + 8) = O * 4 - 8 by omega] at hs1
  rw [show i + S - (i + O * 4) = S - O * 4 by omega] at hs2
  have HR1 : Hid (∀ W, Below w.heap.size w W → Rd W (some d1) (O * 4 - 8) ((l.drop (i + 8)).take (O * 4 - 8))) := fun W hW => (HRD.out.below hW).cut (by omega) (fun h0 b' off' h => by rw [hd1 (by omega)]; simp only [Option.some.injEq] at h; rw [h, add_none])
  have HR2 : Hid (∀ W, Below w.heap.size w W → Rd W (some d2) (S - O * 4) ((l.drop (i + O * 4)).take (S - O * 4))) := fun W hW => (HRD.out.below hW).cut (by omega) (fun h0 b' off' h => by rw [hd2 (by omega)]; simp only [Option.some.injEq] at h; rw [h, add_none])
  have HL1 : Hid (∀ c ∈ (l.drop (i + 8)).take (O * 4 - 8), c < 256) := fun c hc => hlt c (List.mem_of_mem_drop (List.mem_of_mem_take hc))
  have HL2 : Hid (∀ c ∈ (l.drop (i + O * 4)).take (S - O * 4), c < 256) := fun c hc => hlt c (List.mem_of_mem_drop (List.mem_of_mem_take hc))
  clear hr hO hK0 hcc hlt hd1 hd2 HCH hS HBD k6
  generalize (l.drop (i + 8)).take (O * 4 - 8) = X1 at *
  generalize (l.drop (i + O * 4)).take (S - O * 4) = X2 at *
  obtain ⟨D, hD⟩ : ∃ D, D = O * 4 := ⟨_, rfl⟩
  have hDi : 4 * (O : Int) = (D : Int) := by omega
  rw [← hD] at k4 k5 hO64 hs1 hs2 HR1 HR2 ⊢
  rw [hDi] at hs1 hs2
  clear hD
  unfold frV
  have hw1 : IntKind.i64.wrap ((i : Int) + 8) = (i : Int) + 8 := by rw [IntKind.wrap_i64]; omega
  have hw2 : IntKind.i64.wrap ((i : Int) + (D : Int)) = (i : Int) + (D : Int) := by rw [IntKind.wrap_i64]; omega
  have hw3 : IntKind.i64.wrap ((i : Int) + (S : Int)) = (i : Int) + (S : Int) := by rw [IntKind.wrap_i64]; omega
  go_enter Try.func15, Try.ntmps15
  go_wp2_with fail
  refine (HN0.out _ (HRD.out.below (below_box w _))).mono ?_
  rintro e w0 ⟨rfl, rfl⟩
  go_wp2
  obtain ⟨F, hF⟩ : ∃ F, F = w.heap.size + 1 := ⟨_, rfl⟩
  obtain ⟨WA, hWA⟩ : ∃ WA, WA = (w.alloc (.cells #[.int .i64 0, .int .i64 0, .slice none 0 0, .slice none 0 0] 24)).alloc (.cells #[.int .i64 1, .int .i64 0, .slice none 0 0, .slice none 0 0] 24) := ⟨_, rfl⟩
  have hWAs : WA.heap.size = F + 1 := by rw [hWA, hF]; simp
  have HFA : Hid (FB4 WA F (.int .i64 1) (.int .i64 0) (.slice none 0 0) (.slice none 0 0)) := by
    rw [hWA, hF]
    have h := FB4.new (w.alloc (.cells #[.int .i64 0, .int .i64 0, .slice none 0 0, .slice none 0 0] 24)) (.int .i64 1) (.int .i64 0) (.slice none 0 0) (.slice none 0 0)
    simpa [Hid] using h
  have HRZ : Hid (FZ WA w.heap.size) := by
    rw [hWA]
    exact FZ.below (FZ.new w) (below_box _ _) (by simp)
  have HBA : Hid (Below w.heap.size w WA) := by rw [hWA]; exact (below_box w _).alloc (by simp) _
  rw [← hWA, ← hF]
  have hFw : w.heap.size < F := by omega
  have HFE := hide hF
  have HWS := hide hWAs
  clear hWA hF hWAs hx4 hx5 hc4 hc5 HN0
  obtain ⟨q0, q1, q2, q3⟩ := HFA.out.cells
  have hz0 : F + 1 ≤ WA.heap.size := by have := HWS.out; omega
  have HBD1 : Hid (Below WA.heap.size WA WA.drew) := (Below.refl _ _).drew
  go_region_law ((first
    | (refine step_append_any rfl (.tmp 93) (.tmp 100) rfl WA.heap.size (.slice none 0 0) 0 [] (by first | rfl | simp [Act.eval, Act.put]) (World.ownsRow_nil _ _ _ _) d1 (D - 8) (cap - (i + 8)) X1 (by first | rfl | simp [Act.eval, Act.put]) (HR1.out _ (by first | exact HBA.out.drew | exact HBA.out)) (by omega) (by first | exact Nat.le_refl _ | simp) ?_; intro v1 w1 r1 r2; simp only [Nat.zero_add, List.nil_append] at r1; obtain ⟨a1, c1, rfl, hab1, hnc1, hrd1⟩ := Rd.of_own0 r1 HL1.out; have HB1 : Hid (Below WA.heap.size WA w1) := (by first | exact HBD1.out.grown r2 (Nat.le_refl _) (fun k hk => by cases hk) | exact (Below.refl _ _).grown r2 (Nat.le_refl _) (fun k hk => by cases hk)); have HF1 : Hid (FB4 w1 F (.int .i64 1) (.int .i64 0) (.slice none 0 0) (.slice none 0 0)) := (HB1.out.block F (by omega)).trans HFA.out; obtain ⟨t0, t1, t2, t3⟩ := HF1.out.cells; obtain ⟨f0, f1, f2, f3⟩ := HF1.out.frozen; have HRD1 := hide hrd1; have HAB1 := hide hab1; clear r1 r2 hrd1 hab1)))
  have hs1' : WA.heap.size ≤ w1.heap.size := HB1.out.size
  have HF2 : Hid (FB4 (w1.setCell ⟨F, 2, none⟩ (.slice a1 (D - 8) c1)) F (.int .i64 1) (.int .i64 0) (.slice a1 (D - 8) c1) (.slice none 0 0)) := HF1.out.set2 _
  have HZ2 : Hid (FZ (w1.setCell ⟨F, 2, none⟩ (.slice a1 (D - 8) c1)) w.heap.size) := FZ.setOther (FZ.below HRZ.out HB1.out (by omega)) (by omega) _ _
  have HBW2 : Hid (Below w.heap.size w (w1.setCell ⟨F, 2, none⟩ (.slice a1 (D - 8) c1))) := below_setAt (HBA.out.trans (HB1.out.mono (by omega))) (by omega) 2 _
  have HA2 : Hid (Rd (w1.setCell ⟨F, 2, none⟩ (.slice a1 (D - 8) c1)) a1 (D - 8) X1) := rd_set HRD1.out _ _ _ (fun b' o' h => by have := (HAB1.out b' o' h).1; omega)
  obtain ⟨W2, hW2⟩ : ∃ W2, W2 = w1.setCell ⟨F, 2, none⟩ (.slice a1 (D - 8) c1) := ⟨_, rfl⟩
  have hs2' : F + 1 ≤ W2.heap.size := by rw [hW2]; simp; omega
  rw [← hW2] at HF2 HZ2 HBW2 HA2 ⊢
  clear hW2 t0 t1 t2 t3 f0 f1 f2 f3 q0 q1 q2 q3 HF1 HB1 HFA HRZ HBA HRD1 hs1
  obtain ⟨q0, q1, q2, q3⟩ := HF2.out.cells
  have HBD2 : Hid (Below W2.heap.size W2 W2.drew) := (Below.refl _ _).drew
  go_wp2
  go_region_law ((first
    | (refine step_append_any rfl (.tmp 104) (.tmp 112) rfl W2.heap.size (.slice none 0 0) 0 [] (by first | rfl | simp [Act.eval, Act.put]) (World.ownsRow_nil _ _ _ _) d2 (S - D) (cap - (i + D)) X2 (by first | rfl | simp [Act.eval, Act.put]) (HR2.out _ (by first | exact HBW2.out.drew | exact HBW2.out)) (by omega) (by first | exact Nat.le_refl _ | simp) ?_; intro v2 w3 r1 r2; simp only [Nat.zero_add, List.nil_append] at r1; obtain ⟨a2, c2, rfl, hab2, hnc2, hrd2⟩ := Rd.of_own0 r1 HL2.out; have HB3 : Hid (Below W2.heap.size W2 w3) := (by first | exact HBD2.out.grown r2 (Nat.le_refl _) (fun k hk => by cases hk) | exact (Below.refl _ _).grown r2 (Nat.le_refl _) (fun k hk => by cases hk)); have HF3 : Hid (FB4 w3 F (.int .i64 1) (.int .i64 0) (.slice a1 (D - 8) c1) (.slice none 0 0)) := (HB3.out.block F (by omega)).trans HF2.out; obtain ⟨t0, t1, t2, t3⟩ := HF3.out.cells; obtain ⟨f0, f1, f2, f3⟩ := HF3.out.frozen; have HRD2 := hide hrd2; have HAB2 := hide hab2; clear r1 r2 hrd2 hab2)))
  have HF4 : Hid (FB4 (w3.setCell ⟨F, 3, none⟩ (.slice a2 (S - D) c2)) F (.int .i64 1) (.int .i64 0) (.slice a1 (D - 8) c1) (.slice a2 (S - D) c2)) := HF3.out.set3 _
  have HZ4 : Hid (FZ (w3.setCell ⟨F, 3, none⟩ (.slice a2 (S - D) c2)) w.heap.size) := FZ.setOther (FZ.below HZ2.out HB3.out (by omega)) (by omega) _ _
  have HBW4 : Hid (Below w.heap.size w (w3.setCell ⟨F, 3, none⟩ (.slice a2 (S - D) c2))) := below_setAt (HBW2.out.trans (HB3.out.mono (by omega))) (by omega) 3 _
  have HA4 : Hid (Rd (w3.setCell ⟨F, 3, none⟩ (.slice a2 (S - D) c2)) a1 (D - 8) X1) := rd_set (HA2.out.below HB3.out) _ _ _ (fun b' o' h => by have := (HAB1.out b' o' h).1; omega)
  have HC4 : Hid (Rd (w3.setCell ⟨F, 3, none⟩ (.slice a2 (S - D) c2)) a2 (S - D) X2) := rd_set HRD2.out _ _ _ (fun b' o' h => by have := (HAB2.out b' o' h).1; omega)
  obtain ⟨W4, hW4⟩ : ∃ W4, W4 = w3.setCell ⟨F, 3, none⟩ (.slice a2 (S - D) c2) := ⟨_, rfl⟩
  rw [← hW4] at HF4 HZ4 HBW4 HA4 HC4 ⊢
  clear hW4 t0 t1 t2 t3 f0 f1 f2 f3 q0 q1 q2 q3 HF3 HB3 HF2 HZ2 HBW2 HA2 HRD2 hs2
  obtain ⟨q0, q1, q2, q3⟩ := HF4.out.cells
  obtain ⟨z0, z1, z2, z3, y0, y1, y2, y3⟩ := HZ4.out.facts
  have hne1 : F ≠ w.heap.size := by omega
  go_wp2
  refine bodyPost_ret (v := .tuple #[.agg #[.int .i64 1, .int .i64 0, .slice a1 (D - 8) c1, .slice a2 (S - D) c2], .int .i64 ((i : Int) + (S : Int)), .int .i64 0]) (by simp [results, Try.results15, go_sem, z0, z1, z2, z3]) rfl ⟨a1, c1, a2, c2, rfl, ?_, ?_, ?_⟩
  · rw [HX.out]; exact rd_set (rd_set (rd_set (rd_set HA4.out _ _ _ (fun b' o' h => by have := (HAB1.out b' o' h).1; omega)) _ _ _ (fun b' o' h => by have := (HAB1.out b' o' h).1; omega)) _ _ _ (fun b' o' h => by have := (HAB1.out b' o' h).1; omega)) _ _ _ (fun b' o' h => by have := (HAB1.out b' o' h).1; omega)
  · rw [HY.out]; exact rd_set (rd_set (rd_set (rd_set HC4.out _ _ _ (fun b' o' h => by have := (HAB2.out b' o' h).1; omega)) _ _ _ (fun b' o' h => by have := (HAB2.out b' o' h).1; omega)) _ _ _ (fun b' o' h => by have := (HAB2.out b' o' h).1; omega)) _ _ _ (fun b' o' h => by have := (HAB2.out b' o' h).1; omega)
  · exact below_setAt (below_setAt (below_setAt (below_setAt HBW4.out (Nat.le_refl _) 0 _) (Nat.le_refl _) 1 _) (Nat.le_refl _) 2 _) (Nat.le_refl _) 3 _
end Go.Proofs.Ytboacpneoblklaa
