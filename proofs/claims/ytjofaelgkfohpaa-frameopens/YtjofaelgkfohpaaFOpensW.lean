/- FrameOpens: the walk. -/
import Derived.Test.YtjofaelgkfohpaaFBook2
namespace Go.Proofs.Ytjofaelgkfohpaa
open Go.RowKit Go.Deep
set_option linter.unusedVariables false
set_option linter.unusedSimpArgs false

def plL (x y : Int) : List Int := [x, y, x, x]
theorem below_w2 {w w1 w2 : World} {B : Nat} (h1 : Below w.heap.size w w1) (hB : w.heap.size ≤ B) (h2 : Below B w1 w2) : Below w.heap.size w w2 := h1.trans (h2.mono hB)
/-- the places -/
def PB (w : World) (P : Nat) (x y : Int) : Prop := w.heap[P]? = some (.cells #[.int .i64 x, .int .i64 y, .int .i64 x, .int .i64 x] 3 (0, 0))
theorem PB.cell {w : World} {P : Nat} {x y : Int} (h : PB w P x y) {j : Nat} (hj : j < 4) : w.cell? ⟨P, j, none⟩ = some (.int .i64 ((plL x y).getD j 0)) := by
  unfold PB at h
  have : j = 0 ∨ j = 1 ∨ j = 2 ∨ j = 3 := by omega
  rcases this with rfl | rfl | rfl | rfl <;> simp [World.cell?, h, plL]

set_option maxRecDepth 100000 in
set_option maxHeartbeats 4000000 in
theorem opens_walk (a : Option Addr) (n cap : Nat) (l : List Nat) (x most y : Int) (w : World) (hr : Rd w a n l) (hnc : n ≤ cap) (hz : cap ≤ 140737488351232) (wx : (Lit.int .i64 x).wf = true) (wm : (Lit.int .i64 most).wf = true) (wy : (Lit.int .i64 y).wf = true) :
    Calls Try.prog 4 #[.slice a n cap, .int .i64 x, .int .i64 most, .int .i64 y] w fun e w' => e = .returned (.bool true) ∧ Below w.heap.size w w' := by
  obtain ⟨iF, hi, hz0, hz1, hz2⟩ := info_parts Try.infoF
  have HI := hide hi
  have HZ0 := hide hz0
  have HZ1 := hide hz1
  have HZ2 := hide hz2
  clear hi hz0 hz1 hz2
  have HR := hide hr
  have HLT := hide hr.2.1
  have HLN := hide hr.1
  clear hr
  go_enter Try.func4, Try.ntmps4
  go_wp2_with fail
  refine (awake_any w).mono ?_
  rintro e w1 ⟨rfl, hb1⟩
  have HB1 := hide hb1
  have HCL := hide (lent_any a n cap l w1 (HR.out.below hb1) (by omega))
  clear hb1
  go_wp2_with fail
  refine HCL.out.mono ?_
  rintro e w2 ⟨gx, cx, rfl, hlb, hb2⟩
  have HL2 := hide hlb
  obtain ⟨hncx, hgx1, hgx2⟩ := hlb.room
  have HB2 := hide hb2
  clear hlb hb2 HCL
  go_wp2
  obtain ⟨B, hB⟩ : ∃ B, B = w2.heap.size := ⟨_, rfl⟩
  obtain ⟨W0, hW0⟩ : ∃ W0, W0 = (w2.alloc (.cells #[.int .i64 x, .int .i64 y, .int .i64 x, .int .i64 x] 3)).alloc (.cells #[.slice none 0 0] 31) := ⟨_, rfl⟩
  have HP0 : Hid (PB W0 B x y) := by
    rw [hW0, hB]
    exact (heap_alloc_old _ _ (by simp)).trans (heap_alloc_new _ _)
  have HK0 : Hid (Book W0 (B + 1) 31 (.slice none 0 0)) := by
    have h := heap_alloc_new (w2.alloc (.cells #[.int .i64 x, .int .i64 y, .int .i64 x, .int .i64 x] 3)) (.cells #[.slice none 0 0] 31)
    rw [hW0, hB]
    simpa [Hid, Book] using h
  have HB0 : Hid (Below B w2 W0) := by
    rw [hW0]
    exact ((Below.refl _ _).alloc (by omega) _).alloc (by simp; omega) _
  have HS0 : Hid (B + 2 ≤ W0.heap.size) := by show _ ≤ _; rw [hW0, hB]; simp
  have hgB : gx < B := by omega
  have HWB : Hid (w.heap.size ≤ B) := by have := HB1.out.size; have := HB2.out.size; show _ ≤ _; omega
  have HW2 : Hid (Below w.heap.size w w2) := below_w2 HB1.out HB1.out.size HB2.out
  rw [← hW0, ← hB]
  have HBE := hide hB
  clear hW0 hB
  have HOA := hide (fun (p : Int) W (h : Rd W (some ⟨gx, 0, none⟩) n l) => open_any (some ⟨gx, 0, none⟩) n cx p most l W h hncx (by omega))
  have HRO := hide (fun (p : Int) W (h : Rd W a n l) => refopen_any a n cap p most l W h hnc (by omega))
  have HPX : Hid (∀ W, Below B w2 W → Rd W (some ⟨gx, 0, none⟩) n l ∧ Rd W a n l) := fun W hW => ⟨(HL2.out.rd).below (hW.mono (by have := HBE.out; omega)), HR.out.below (below_w2 HW2.out HWB.out hW)⟩
  go_loopw [12, 14] (fun v i wr => ∃ (k : Nat) (G : List (Int × Option Nat × Option Nat)), k ≤ 4 ∧ i = .int .i64 k ∧ Hid (G.map Prod.fst = (plL x y).take k) ∧ Hid (wr.ownsRow B 24 4 v k (gflat l most G)) ∧ Hid (Ents wr B (gents l most G)) ∧ Hid (Below B w2 wr) ∧ Hid (B + 2 ≤ wr.heap.size) ∧ Hid (PB wr B x y) ∧ Hid (Book wr (B + 1) 31 (.slice none 0 0))) (fun _ i _ => 4 - (intOf i).toNat)
  case atStart => exact ⟨0, [], Nat.zero_le _, rfl, hide rfl, hide (World.ownsRow_nil _ _ _ _), hide (Ents.nil _ _), HB0, HS0, HP0, HK0⟩
  case round =>
    obtain ⟨k, G, hk, rfl, HGP, HOW, HEN, HBW, HSZ, HPB, HBK⟩ := hrel
    by_cases hk4 : k < 4
    · obtain ⟨hrx, hra⟩ := HPX.out _ HBW.out
      have hcp := HPB.out.cell hk4
      obtain ⟨p, hp⟩ : ∃ p, p = (plL x y).getD k 0 := ⟨_, rfl⟩
      rw [← hp] at hcp
      have HP := hide hp
      have HO1 := hide (HOA.out p wr hrx)
      have HR1 := hide (fun W (h : Below wr.heap.size wr W) => HRO.out p W (hra.below h))
      have HXL := hide (opX_lt HLT.out p most)
      have HYL := hide (opY_lt HLT.out p most)
      have HG1 : Hid (∀ o1 o2, gcell l most (p, o1, o2) = [.int .i64 (opK l p most), .int .i64 (opC l p most), .slice (o1.map (fun g => (⟨g, 0, none⟩ : Addr))) (opX l p most).length (opX l p most).length, .slice (o2.map (fun g => (⟨g, 0, none⟩ : Addr))) (opY l p most).length (opY l p most).length]) := fun _ _ => rfl
      have HG2 : Hid (∀ o1 o2, gents l most (G ++ [(p, o1, o2)]) = gents l most G ++ [(o1, opX l p most), (o2, opY l p most)]) := fun o1 o2 => gents_snoc l most G (p, o1, o2)
      unfold frO frV at HO1
      unfold frV at HR1
      clear hrx hra hp
      generalize opX l p most = X at *
      generalize opY l p most = Y at *
      generalize opK l p most = K at *
      generalize opC l p most = C at *
      generalize opN l p most = N at *
      generalize opE l p most = E at *
      have hk4' : (k : Int) < 4 := by omega
      go_wp2_with fail
      refine HO1.out.mono ?_
      rintro e w3 ⟨o1, o2, rfl, h1, h2, h3, h4, h5, h6⟩
      have HEN3 : Hid (Ents w3 B (gents l most (G ++ [(p, o1, o2)]))) := by
        rw [HG2.out]
        exact HEN.out.two h6 (by have := HSZ.out; omega) h1 h2 HXL.out HYL.out h3 h4 h5
      have HB3 := hide h6
      have HRX3 : Hid (Rd w3 (o1.map (fun g => (⟨g, 0, none⟩ : Addr))) X.length X) := by
        cases o1 with
        | none => rw [h1 rfl]; exact ⟨rfl, fun c hc => by simp at hc, fun h => by simp at h⟩
        | some g => exact (h3 g rfl).2.rd0 HXL.out
      have HRY3 : Hid (Rd w3 (o2.map (fun g => (⟨g, 0, none⟩ : Addr))) Y.length Y) := by
        cases o2 with
        | none => rw [h2 rfl]; exact ⟨rfl, fun c hc => by simp at hc, fun h => by simp at h⟩
        | some g => exact (h4 g rfl).2.rd0 HYL.out
      have HGC := hide (HG1.out o1 o2)
      have hcp3 := (h6.cell (p := ⟨B, k, none⟩) (by have := HSZ.out; show B < _; omega)).trans hcp
      clear h1 h2 h3 h4 h5 h6 HO1
      generalize (o1.map (fun g => (⟨g, 0, none⟩ : Addr))) = A1 at *
      generalize (o2.map (fun g => (⟨g, 0, none⟩ : Addr))) = A2 at *
      generalize hnX : X.length = nX at *
      generalize hnY : Y.length = nY at *
      have hBlt : B < w3.heap.size := by have := HSZ.out; have := HB3.out.size; omega
      go_wp2_with fail
      refine (HR1.out _ (HB3.out.alloc HB3.out.size _)).mono ?_
      rintro e w5 ⟨a1, c1, a2, c2, rfl, r1, r2, hb5⟩
      have hFB5 : FB4 w5 w3.heap.size (.int .i64 K) (.int .i64 C) (.slice A1 nX nX) (.slice A2 nY nY) := (hb5.block _ (by simp)).trans (FB4.new w3 _ _ _ _)
      obtain ⟨k0, k1, k2, k3⟩ := hFB5.cells
      have hb35 : Below w3.heap.size w3 w5 := (below_box w3 _).trans (hb5.mono (by simp))
      have h35 : w3.heap.size < w5.heap.size := by have := hb5.size; simp at this; omega
      have HSM : Hid (∀ o : Obj, Calls Try.prog 16 #[.agg #[.int .i64 K, .int .i64 C, .slice A1 nX nX, .slice A2 nY nY], .agg #[.int .i64 K, .int .i64 C, .slice a1 nX c1, .slice a2 nY c2]] (w5.alloc o) fun e w' => e = .returned (.bool true) ∧ Below (w5.alloc o).heap.size (w5.alloc o) w') := fun o => by
        have hbo := below_box w5 o
        have := same5_eq K C A1 a1 nX nX c1 A2 a2 nY nY c2 X Y (w5.alloc o) ((HRX3.out.below hb35).below hbo) (r1.below hbo) ((HRY3.out.below hb35).below hbo) (r2.below hbo)
        unfold frV at this
        exact this
      have HB5 := hide hb5
      have HFB5 := hide hFB5
      have HB35 := hide hb35
      clear r1 r2 hb5 hFB5 hb35 HR1
      go_wp2_with fail
      refine (HSM.out _).mono ?_
      rintro e w7 ⟨rfl, hb7⟩
      have hb57 : Below w5.heap.size w5 w7 := (below_box w5 _).trans (hb7.mono (by simp))
      have HB37 : Hid (Below w3.heap.size w3 w7) := HB35.out.trans (hb57.mono (by omega))
      have HFB7 : Hid (FB4 w7 w3.heap.size (.int .i64 K) (.int .i64 C) (.slice A1 nX nX) (.slice A2 nY nY)) := (hb57.block _ h35).trans HFB5.out
      obtain ⟨m0, m1, m2, m3⟩ := HFB7.out.cells
      have HBR7 : Hid (Below wr.heap.size wr w7) := HB3.out.trans (HB37.out.mono HB3.out.size)
      have HOW7 : Hid (w7.ownsRow B 24 4 u12 k (gflat l most G)) := ownsRow_below4 HOW.out HBR7.out
      have HEN7 : Hid (Ents w7 B (gents l most (G ++ [(p, o1, o2)]))) := HEN3.out.below HB37.out
      have HBW7 : Hid (Below B w2 w7) := HBW.out.trans (HBR7.out.mono (by have := HSZ.out; omega))
      have HSZ7 : Hid (B + 2 ≤ w7.heap.size) := Nat.le_trans HSZ.out HBR7.out.size
      have HPB7 : Hid (PB w7 B x y) := (HBR7.out.block B (by have := HSZ.out; omega)).trans HPB.out
      have HBK7 : Hid (Book w7 (B + 1) 31 (.slice none 0 0)) := (HBR7.out.block (B + 1) (by have := HSZ.out; omega)).trans HBK.out
      have HNW : Hid (∀ j u, ([.int .i64 K, .int .i64 C, .slice A1 nX nX, .slice A2 nY nY] : List Value)[j]? = some u → (w7.alloc (.cells #[.int .i64 K, .int .i64 C, .slice A1 nX nX, .slice A2 nY nY] 24)).cell? ((⟨w7.heap.size, 0, none⟩ : Addr).add j) = some u) := fun j u hj => by
        rw [add_none, Nat.zero_add, World.cell?_alloc_at _ _ _ _ rfl]
        simpa using hj
      have HN1 : Hid (∀ u ∈ ([.int .i64 K, .int .i64 C, .slice A1 nX nX, .slice A2 nY nY] : List Value), u.oneCell' = true) := fun u hu => by
        simp at hu
        rcases hu with rfl | rfl | rfl | rfl <;> rfl
      clear hb7 hb57 k0 k1 k2 k3
      go_wp2_with (at_builtin; refine wpList_append_own _ rfl (.tmp 91) (.tmp 93) 27 rfl B 24 iF (.agg #[.int .i64 0, .int .i64 0, .slice none 0 0, .slice none 0 0]) 4 64 Try.underlying27 HI.out HZ0.out HZ1.out HZ2.out rfl (by omega) _ k _ rfl (HOW7.out.alloc _) ⟨w7.heap.size, 0, none⟩ 1 1 [.int .i64 K, .int .i64 C, .slice A1 nX nX, .slice A2 nY nY] rfl rfl HNW.out HN1.out (by unfold maxLen; omega) (by omega) (by have := HSZ7.out; simp; omega) ?_; intro v8 w8 r1 r2 r3; have HR8 := hide r1; have HG8 := hide r2; clear r1 r2 r3)
      go_roundw
      case rel =>
        have hoa := HOW7.out.alloc (.cells #[.int .i64 K, .int .i64 C, .slice A1 nX nX, .slice A2 nY nY] 24)
        refine ⟨k + 1, G ++ [(p, o1, o2)], by omega, by go_num, hide ?_, hide ?_, hide ?_, hide ?_, hide ?_, hide ?_, hide ?_⟩
        · rw [List.map_append, HGP.out, HP.out]
          have h4 : (plL x y).length = 4 := rfl
          rw [List.take_succ_eq_append_getElem (by omega)]
          simp [List.getD_eq_getElem?_getD, List.getElem?_eq_getElem (show k < (plL x y).length by omega)]
        · rw [gflat_snoc, HGC.out]; exact HR8.out
        · exact HEN7.out.keep fun g L _ hL => grown_keep hoa HG8.out g _ _ _ (by decide) (hL.alloc _)
        · exact (HBW7.out.alloc (by have := HSZ7.out; omega) _).grown HG8.out (by have := HSZ7.out; simp; omega) (fun g hg => (HOW7.out.lt g hg).1)
        · have hs8 := HG8.out.size
          simp at hs8
          have := HSZ7.out
          omega
        · exact grown_keep hoa HG8.out _ _ _ _ (by decide) ((heap_alloc_old _ _ (Array.getElem?_eq_some_iff.1 HPB7.out).1).trans HPB7.out)
        · exact grown_keep hoa HG8.out _ _ _ _ (by decide) ((heap_alloc_old _ _ (Array.getElem?_eq_some_iff.1 HBK7.out).1).trans HBK7.out)
      case measure => simp [intOf]; omega
    · have hk4' : k = 4 := by omega
      subst hk4'
      have hGl : G.length = 4 := by
        have h := congrArg List.length HGP.out
        simpa [plL] using h
      have HGL := hide hGl
      have HGP4 : Hid (∀ j (hj : j < G.length), G[j].1 = (plL x y).getD j 0) := fun j hj => by
        have h := congrArg (fun L => L.getD j 0) HGP.out
        have hj4 : j < 4 := by omega
        have e : (plL x y).take 4 = plL x y := rfl
        simp only [e] at h
        rw [← h]
        simp [List.getD_eq_getElem?_getD, List.getElem?_eq_getElem hj]
      obtain ⟨gg, cg, rfl, hgB2, hgl⟩ : ∃ gg cg, u12 = .slice (some ⟨gg, 0, none⟩) 4 cg ∧ B ≤ gg ∧ gg < wr.heap.size := by
        rcases HOW.out.2 with ⟨_, h0⟩ | ⟨g, c, cur, e, hb, hg, _⟩
        · omega
        · exact ⟨g, c, e, hb, (Array.getElem?_eq_some_iff.1 hg).1⟩
      rename World => W2
      obtain ⟨_, hra⟩ := HPX.out _ HBW.out
      have HTU := hide (turned_any a n cap l W2 hra (by omega))
      have HRA2 := hide hra
      have hsz2 : B + 2 ≤ W2.heap.size := HSZ.out
      clear hra hGl
      go_wp2_with fail
      refine HTU.out.mono ?_
      rintro e w3 ⟨at', ct, rfl, hrt, hct, hbt, hb3⟩
      have HRT := hide hrt
      have HBT := hide hbt
      have HB3 := hide hb3
      have hz3 : W2.heap.size ≤ w3.heap.size := hb3.size
      have HL3 : Hid (Lentb w3 w1.heap.size gx n cx l) := (HL2.out.below (HBW.out.mono (by have := HBE.out; omega))).below hb3
      have HB13 : Hid (Below w1.heap.size w1 w3) := (HB2.out.trans (HBW.out.mono (by have := HBE.out; have := HB2.out.size; omega))).trans (hb3.mono (by have := HBE.out; have := HB2.out.size; omega))
      obtain ⟨w4, hrun4, hl4, hb4, hs4, hk4⟩ := copy_lent w3 w1 w1.heap.size gx n cx ct at' l (turnB l) 3 HL3.out hrt HB13.out
      have HL4 := hide hl4
      have HRX4 := hide hl4.rd
      have HB14 := hide hb4
      have HK4 : Hid (∀ g (o : Obj), B ≤ g → g < W2.heap.size → W2.heap[g]? = some o → w4.heap[g]? = some o) := fun g o h1 h2 h3 => (hk4 g (by omega)).trans ((HB3.out.block g h2).trans h3)
      have HRT4 : Hid (Rd w4 at' n (turnB l)) := rd_other hrt hk4 (fun b o h => by have := (hbt b o h).1; omega) (by omega)
      have hz4 : w3.heap.size = w4.heap.size := hs4.symm
      have HRA4 : Hid (Rd w4 a n l) := HR.out.below (below_w2 HB1.out HB1.out.size hb4)
      have hlt : (turnB l).length = n := by rw [turnB_length]; exact HLN.out
      have HO2 := hide (open_any (some ⟨gx, 0, none⟩) n cx x most (turnB l) w4 hl4.rd hncx (by omega))
      have HR2 := hide (fun W (h : Below w4.heap.size w4 W) => refopen_any at' n ct x most (turnB l) W (HRT4.out.below h) hct (by omega))
      have HXL := hide (opX_lt (turnB_lt HLT.out) x most)
      have HYL := hide (opY_lt (turnB_lt HLT.out) x most)
      have HXYn := hide (opXY_length (turnB l) x most)
      unfold frO frV at HO2
      unfold frV at HR2
      clear hl4 hb4 hs4 hk4 hrt hbt hb3
      generalize opX (turnB l) x most = X at *
      generalize opY (turnB l) x most = Y at *
      generalize opK (turnB l) x most = K at *
      generalize opC (turnB l) x most = C at *
      generalize opN (turnB l) x most = N at *
      generalize opE (turnB l) x most = E at *
      go_wp2_with fail
      refine HO2.out.mono ?_
      rintro e w5 ⟨o1, o2, rfl, h1, h2, h3, h4, h5, h6⟩
      have HN1 := hide h1
      have HN2 := hide h2
      have HN3 := hide h3
      have HN4 := hide h4
      have HN5 := hide h5
      have HB5 := hide h6
      have hz5 : w4.heap.size ≤ w5.heap.size := h6.size
      have HRX5 : Hid (Rd w5 (o1.map (fun g => (⟨g, 0, none⟩ : Addr))) X.length X) := by
        cases o1 with
        | none => rw [h1 rfl]; exact ⟨rfl, fun c hc => by simp at hc, fun h => by simp at h⟩
        | some g => exact (h3 g rfl).2.rd0 HXL.out
      have HRY5 : Hid (Rd w5 (o2.map (fun g => (⟨g, 0, none⟩ : Addr))) Y.length Y) := by
        cases o2 with
        | none => rw [h2 rfl]; exact ⟨rfl, fun c hc => by simp at hc, fun h => by simp at h⟩
        | some g => exact (h4 g rfl).2.rd0 HYL.out
      clear h1 h2 h3 h4 h5 h6 HO2
      obtain ⟨A1, hA1⟩ : ∃ A, A = o1.map (fun g => (⟨g, 0, none⟩ : Addr)) := ⟨_, rfl⟩
      obtain ⟨A2, hA2⟩ : ∃ A, A = o2.map (fun g => (⟨g, 0, none⟩ : Addr)) := ⟨_, rfl⟩
      obtain ⟨nX, hnX⟩ : ∃ m, m = X.length := ⟨_, rfl⟩
      obtain ⟨nY, hnY⟩ : ∃ m, m = Y.length := ⟨_, rfl⟩
      rw [← hA1, ← hnX] at HRX5
      rw [← hA2, ← hnY] at HRY5
      rw [← hnX, ← hnY] at HR2
      rw [← hA1, ← hA2, ← hnX, ← hnY]
      have HA1 := hide hA1
      have HA2 := hide hA2
      have HnX := hide hnX
      have HnY := hide hnY
      clear hA1 hA2 hnX hnY
      go_wp2_with fail
      refine (HR2.out _ (HB5.out.alloc hz5 _)).mono ?_
      rintro e w6 ⟨a1, c1, a2, c2, rfl, r1, r2, hb6⟩
      have hFB6 : FB4 w6 w5.heap.size (.int .i64 K) (.int .i64 C) (.slice A1 nX nX) (.slice A2 nY nY) := (hb6.block _ (by simp)).trans (FB4.new w5 _ _ _ _)
      obtain ⟨k0, k1, k2, k3⟩ := hFB6.cells
      have hb56 : Below w5.heap.size w5 w6 := (below_box w5 _).trans (hb6.mono (by simp))
      have h56 : w5.heap.size < w6.heap.size := by have := hb6.size; simp at this; omega
      have HSM : Hid (∀ o : Obj, Calls Try.prog 16 #[.agg #[.int .i64 K, .int .i64 C, .slice A1 nX nX, .slice A2 nY nY], .agg #[.int .i64 K, .int .i64 C, .slice a1 nX c1, .slice a2 nY c2]] (w6.alloc o) fun e w' => e = .returned (.bool true) ∧ Below (w6.alloc o).heap.size (w6.alloc o) w') := fun o => by
        have hbo := below_box w6 o
        have := same5_eq K C A1 a1 nX nX c1 A2 a2 nY nY c2 X Y (w6.alloc o) ((HRX5.out.below hb56).below hbo) (r1.below hbo) ((HRY5.out.below hb56).below hbo) (r2.below hbo)
        unfold frV at this
        exact this
      have HFB6 := hide hFB6
      have HB56 := hide hb56
      clear r1 r2 hb6 hFB6 hb56 HR2
      go_wp2_with fail
      refine (HSM.out _).mono ?_
      rintro e w7 ⟨rfl, hb7⟩
      have hb67 : Below w6.heap.size w6 w7 := (below_box w6 _).trans (hb7.mono (by simp))
      have HB57 : Hid (Below w5.heap.size w5 w7) := HB56.out.trans (hb67.mono (by omega))
      have HB47 : Hid (Below w4.heap.size w4 w7) := HB5.out.trans (HB57.out.mono hz5)
      have HFB7 : Hid (FB4 w7 w5.heap.size (.int .i64 K) (.int .i64 C) (.slice A1 nX nX) (.slice A2 nY nY)) := (hb67.block _ h56).trans HFB6.out
      have HL7 := hide (HL4.out.below HB47.out)
      have HT7 := hide (HRT4.out.below HB47.out)
      clear hb7 hb67 k0 k1 k2 k3
      go_wp2_with fail
      refine (kept_eq gx n cx ct at' (turnB l) w1.heap.size w7 HL7.out HT7.out (by omega)).mono ?_
      rintro e w8 ⟨rfl, hk8⟩
      have HK8 : Hid (∀ g (o : Obj), B ≤ g → g < W2.heap.size → W2.heap[g]? = some o → w8.heap[g]? = some o) := fun g o h1 h2 h3 => by
        have h4 := HK4.out g o h1 h2 h3
        have h7 := (HB47.out.block g (by omega)).trans h4
        exact (hk8.2.2.2.2 g (by have := HB47.out.size; omega) (by omega)).trans h7
      have hz8 : w7.heap.size ≤ w8.heap.size := hk8.2.2.2.1
      have hz7 : w5.heap.size < w7.heap.size := (Array.getElem?_eq_some_iff.1 HFB7.out).1
      have HPB8 : Hid (PB w8 B x y) := HK8.out B _ (Nat.le_refl _) (by omega) HPB.out
      have HBK8 : Hid (Book w8 (B + 1) 31 (.slice none 0 0)) := HK8.out (B + 1) _ (by omega) (by omega) HBK.out
      have HOW8 : Hid (w8.ownsRow B 24 4 (.slice (some ⟨gg, 0, none⟩) 4 cg) 4 (gflat l most G)) := by
        refine ⟨HOW.out.1, ?_⟩
        rcases HOW.out.2 with ⟨h, _⟩ | ⟨g, c, cur, e, hb, hg, hrest⟩
        · simp at h
        · exact .inr ⟨g, c, cur, e, hb, HK8.out g _ hb (Array.getElem?_eq_some_iff.1 hg).1 hg, hrest⟩
      have HEN8 : Hid (Ents w8 B (gents l most G)) := HEN.out.keep fun g L hg hL => HK8.out g _ hg hL.lt hL
      have HFB8 : Hid (FB4 w8 w5.heap.size (.int .i64 K) (.int .i64 C) (.slice A1 nX nX) (.slice A2 nY nY)) := (hk8.2.2.2.2 _ hz7 (by omega)).trans HFB7.out
      have HLX : Hid (∀ g, o1 = some g → w4.heap.size ≤ g ∧ Bl w8 g X) := fun g hg => by
        obtain ⟨q1, q2⟩ := HN3.out g hg
        have := q2.below HB57.out q2.lt
        exact ⟨q1, hk8.bl this (by omega)⟩
      have HLY : Hid (∀ g, o2 = some g → w4.heap.size ≤ g ∧ Bl w8 g Y) := fun g hg => by
        obtain ⟨q1, q2⟩ := HN4.out g hg
        have := q2.below HB57.out q2.lt
        exact ⟨q1, hk8.bl this (by omega)⟩
      have HFW8 : Hid (Below w.heap.size w w8) := by
        have e1 : Below w.heap.size w w4 := below_w2 HB1.out HB1.out.size HB14.out
        have e2 : Below w.heap.size w w7 := e1.trans (HB47.out.mono e1.size)
        exact e2.trans (hk8.toBelow e2.size (fun k hk e => by have := HB1.out.size; omega))
      have hB8 : B + 2 ≤ w8.heap.size := by have := HB47.out.size; omega
      clear hk8 HSM
      go_wp2
      go_loopw [31] (fun i wr => ∃ (k : Nat) (v : Value), k ≤ 4 ∧ i = .int .i64 k ∧ Hid (Book wr (B + 1) 31 v) ∧ Hid (wr.ownsRow B 22 1 v (2 * k) ((gents l most (G.take k)).map ev)) ∧ Hid (Keeps w8 wr) ∧ Hid (Below B w8 wr)) (fun i _ => 4 - (intOf i).toNat)
      case atStart => exact ⟨0, _, Nat.zero_le _, rfl, HBK8, hide (World.ownsRow_nil _ _ _ _), hide (Keeps.refl _), hide (Below.refl _ _)⟩
      case round =>
        obtain ⟨k, v, hk, rfl, HBKr, HOWr, HKE, HBWr⟩ := hrel
        by_cases hk4 : k < 4
        · have hzr : B + 2 ≤ wr.heap.size := Nat.le_trans hB8 HBWr.out.size
          have hcp := (show PB wr B x y from HKE.out _ _ _ _ (by decide) (by decide) HPB8.out).cell hk4
          have hkG : k < G.length := by rw [HGL.out]; exact hk4
          obtain ⟨p, hp⟩ : ∃ p, p = (plL x y).getD k 0 := ⟨_, rfl⟩
          rw [← hp] at hcp
          have HP : Hid (G[k].1 = p) := by have := HGP4.out k hkG; rw [← hp] at this; exact this
          obtain ⟨q1, q2, hq⟩ : ∃ q1 q2, G[k] = (p, q1, q2) := ⟨G[k].2.1, G[k].2.2, by rw [← HP.out]⟩
          have HRr := hide (HRO.out p wr (HR.out.below (HFW8.out.trans (HBWr.out.mono HWB.out))))
          have HGR : Hid (∀ W : World, Keeps w8 W → W.cell? ⟨gg, k * 4, none⟩ = some (.int .i64 (opK l p most)) ∧ W.cell? ⟨gg, k * 4 + 1, none⟩ = some (.int .i64 (opC l p most)) ∧ W.cell? ⟨gg, k * 4 + 2, none⟩ = some (.slice (q1.map (fun g => (⟨g, 0, none⟩ : Addr))) (opX l p most).length (opX l p most).length) ∧ W.cell? ⟨gg, k * 4 + 3, none⟩ = some (.slice (q2.map (fun g => (⟨g, 0, none⟩ : Addr))) (opY l p most).length (opY l p most).length)) := fun W hW => by
            have key : ∀ c, c < 4 → W.cell? ⟨gg, k * 4 + c, none⟩ = (gcell l most G[k])[c]? := fun c hc => by
              rw [← gflat_at l most G k hkG c hc]
              exact own4_cell HOW8.out hW (by omega)
            rw [hq] at key
            exact ⟨key 0 (by omega), key 1 (by omega), key 2 (by omega), key 3 (by omega)⟩
          have HTW : Hid ((gents l most (G.take (k + 1))).map ev = (gents l most (G.take k)).map ev ++ [.slice (q1.map (fun g => (⟨g, 0, none⟩ : Addr))) (opX l p most).length (opX l p most).length, .slice (q2.map (fun g => (⟨g, 0, none⟩ : Addr))) (opY l p most).length (opY l p most).length]) := by
            show _ = _
            rw [List.take_succ_eq_append_getElem hkG, gents_snoc, hq]
            simp [ev]
          have HRDG : Hid (∀ W : World, Keeps w8 W → Rd W (q1.map (fun g => (⟨g, 0, none⟩ : Addr))) (opX l p most).length (opX l p most) ∧ Rd W (q2.map (fun g => (⟨g, 0, none⟩ : Addr))) (opY l p most).length (opY l p most)) := fun W hW => by
            have hge := gents_at l most G k hkG
            rw [hq] at hge
            exact ⟨ents_rd HEN8.out hW hge.1, ents_rd HEN8.out hW hge.2⟩
          unfold frV at HRr
          clear hp hq
          generalize opX l p most = X3 at *
          generalize opY l p most = Y3 at *
          generalize opK l p most = K3 at *
          generalize opC l p most = C3 at *
          generalize opN l p most = N3 at *
          generalize opE l p most = E3 at *
          generalize (q1.map (fun g => (⟨g, 0, none⟩ : Addr))) = A3 at *
          generalize (q2.map (fun g => (⟨g, 0, none⟩ : Addr))) = A4 at *
          obtain ⟨n3, hn3⟩ : ∃ m, m = X3.length := ⟨_, rfl⟩
          obtain ⟨n4, hn4⟩ : ∃ m, m = Y3.length := ⟨_, rfl⟩
          rw [← hn3, ← hn4] at HRr HGR HTW HRDG
          clear hn3 hn4
          have hk4' : (k : Int) < 4 := by omega
          go_wp2_with fail
          refine HRr.out.mono ?_
          rintro e w9 ⟨a3, c3, a4, c4, rfl, r1, r2, hb9⟩
          have HB9 := hide hb9
          have HK9 : Hid (Keeps w8 w9) := HKE.out.below hb9
          have HBK9 : Hid (Book w9 (B + 1) 31 v) := (hb9.block (B + 1) (by omega)).trans HBKr.out
          have HOW9 : Hid (w9.ownsRow B 22 1 v (2 * k) ((gents l most (G.take k)).map ev)) := ownsRow_below4 HOWr.out hb9
          have HBW9 : Hid (Below B w8 w9) := HBWr.out.trans (hb9.mono (by omega))
          have hz9 : B + 2 ≤ w9.heap.size := Nat.le_trans hzr hb9.size
          obtain ⟨WA, hWA⟩ : ∃ WA, WA = w9.alloc (.cells #[.int .i64 K3, .int .i64 C3, .slice a3 n3 c3, .slice a4 n4 c4] 24) := ⟨_, rfl⟩
          have HKA : Hid (Keeps w8 WA) := by rw [hWA]; exact HK9.out.alloc _
          have HFA : Hid (FB4 WA w9.heap.size (.int .i64 K3) (.int .i64 C3) (.slice a3 n3 c3) (.slice a4 n4 c4)) := by rw [hWA]; exact FB4.new w9 _ _ _ _
          have HSM : Hid (∀ W : World, W.heap = WA.heap → W.os = WA.os → W.tape = WA.tape → W.output = WA.output → Calls Try.prog 16 #[.agg #[.int .i64 K3, .int .i64 C3, .slice A3 n3 n3, .slice A4 n4 n4], .agg #[.int .i64 K3, .int .i64 C3, .slice a3 n3 c3, .slice a4 n4 c4]] W fun e w' => e = .returned (.bool true) ∧ Hid (Below WA.heap.size WA w')) := fun W e1 e2 e3 e4 => by
            have hb0 : Below w9.heap.size w9 WA := by rw [hWA]; exact below_box w9 _
            have hbo : Below w9.heap.size w9 W := below_alike hb0 e1 e2 e3 e4
            obtain ⟨g1, g2⟩ := HRDG.out W (HKA.out.alike e1)
            have := same5_eq K3 C3 A3 a3 n3 n3 c3 A4 a4 n4 n4 c4 X3 Y3 W g1 (r1.below hbo) g2 (r2.below hbo)
            unfold frV at this
            refine this.mono ?_
            rintro e w' ⟨q1, q2⟩
            exact ⟨q1, ⟨q2.os.trans e2, q2.tape.trans e3, q2.output.trans e4, by rw [← e1]; exact q2.size, fun k hk => by rw [q2.block k (by rw [e1]; exact hk), e1]⟩⟩
          have HSA : Hid (∀ W : World, Keeps w8 W → FB4 W w9.heap.size (.int .i64 K3) (.int .i64 C3) (.slice a3 n3 c3) (.slice a4 n4 c4) → (W.cell? ⟨gg, k * 4, none⟩ = some (.int .i64 K3) ∧ W.cell? ⟨gg, k * 4 + 1, none⟩ = some (.int .i64 C3) ∧ W.cell? ⟨gg, k * 4 + 2, none⟩ = some (.slice A3 n3 n3) ∧ W.cell? ⟨gg, k * 4 + 3, none⟩ = some (.slice A4 n4 n4)) ∧ W.cell? ⟨w9.heap.size, 0, none⟩ = some (.int .i64 K3) ∧ W.cell? ⟨w9.heap.size, 1, none⟩ = some (.int .i64 C3) ∧ W.cell? ⟨w9.heap.size, 2, none⟩ = some (.slice a3 n3 c3) ∧ W.cell? ⟨w9.heap.size, 3, none⟩ = some (.slice a4 n4 c4)) := fun W h1 h2 => ⟨HGR.out W h1, h2.cells⟩
          have HWA := hide hWA
          have hzA : WA.heap.size = w9.heap.size + 1 := by rw [hWA]; simp
          go_wp2
          rw [← hWA]
          clear hWA r1 r2 hb9
          have HZA := hide hzA
          clear hzA
          have HS0 := hide (HSA.out WA HKA.out HFA.out)
          go_region_held3 (fun W => (W.cell? ⟨gg, k * 4, none⟩ = some (.int .i64 K3) ∧ W.cell? ⟨gg, k * 4 + 1, none⟩ = some (.int .i64 C3) ∧ W.cell? ⟨gg, k * 4 + 2, none⟩ = some (.slice A3 n3 n3) ∧ W.cell? ⟨gg, k * 4 + 3, none⟩ = some (.slice A4 n4 n4)) ∧ W.cell? ⟨w9.heap.size, 0, none⟩ = some (.int .i64 K3) ∧ W.cell? ⟨w9.heap.size, 1, none⟩ = some (.int .i64 C3) ∧ W.cell? ⟨w9.heap.size, 2, none⟩ = some (.slice a3 n3 c3) ∧ W.cell? ⟨w9.heap.size, 3, none⟩ = some (.slice a4 n4 c4)) (first | exact HS0.out | exact HS1.out) ((first
            | (go_at_call 16; refine Calls.mono (HSM.out WA.drew rfl rfl rfl rfl) ?_; rintro e10 w10 ⟨rfl, HB10⟩; have HS1 := hide (HSA.out w10 (HKA.out.below HB10.out) ((HB10.out.block _ (by have := HZA.out; omega)).trans HFA.out)))
            | (go_at_call 16; refine Calls.mono (HSM.out WA rfl rfl rfl rfl) ?_; rintro e10 w10 ⟨rfl, HB10⟩; have HS1 := hide (HSA.out w10 (HKA.out.below HB10.out) ((HB10.out.block _ (by have := HZA.out; omega)).trans HFA.out)))))
          have HB910 : Hid (Below w9.heap.size w9 w10) := by
            have hb0 : Below w9.heap.size w9 WA := by rw [HWA.out]; exact below_box w9 _
            exact hb0.trans (HB10.out.mono (by have := HZA.out; omega))
          have HK10 : Hid (Keeps w8 w10) := HK9.out.below HB910.out
          have HBK10 : Hid (Book w10 (B + 1) 31 v) := (HB910.out.block (B + 1) (by omega)).trans HBK9.out
          have HOW10 : Hid (w10.ownsRow B 22 1 v (2 * k) ((gents l most (G.take k)).map ev)) := ownsRow_below4 HOW9.out HB910.out
          have HBW10 : Hid (Below B w8 w10) := HBW9.out.trans (HB910.out.mono (by omega))
          have hz10 : B + 2 ≤ w10.heap.size := Nat.le_trans hz9 HB910.out.size
          obtain ⟨g0, g1, g2, g3⟩ := HGR.out w10 HK10.out
          have hcb := (cell_of_blk HBK10.out).1
          have hfb := (cell_of_blk HBK10.out).2
          have hcbA : (w10.alloc (.cells #[.slice A3 n3 n3, .slice A4 n4 n4] 22)).cell? ⟨B + 1, 0, none⟩ = some v := (cell_of_blk (HBK10.out.alloc _)).1
          have hltA : B + 1 < w10.heap.size := by omega
          have HKA2 : Hid (∀ W : World, W.heap = w10.heap → W.os = w10.os → W.tape = w10.tape → W.output = w10.output → Keeps w8 W ∧ Book W (B + 1) 31 v ∧ W.ownsRow B 22 1 v (2 * k) ((gents l most (G.take k)).map ev) ∧ Below B w8 W ∧ B + 2 ≤ W.heap.size) := fun W e1 e2 e3 e4 => by
            refine ⟨HK10.out.alike e1, ?_, ?_, below_alike HBW10.out e1 e2 e3 e4, by rw [e1]; exact hz10⟩
            · have := HBK10.out; unfold Book at *; rw [e1]; exact this
            · have := HOW10.out; unfold World.ownsRow at *; rw [e1]; exact this
          go_wp2
          go_region_law (first
            | (refine step_append_lists rfl (.tmp 167) (.tmp 178) rfl B v (2 * k) ((gents l most (G.take k)).map ev) (by first | rfl | simp [Act.eval, Act.put]) (show World.ownsRow _ _ _ _ _ _ _ from HOW10.out.alloc (.cells #[.slice A3 n3 n3, .slice A4 n4 n4] 22)) ⟨w10.heap.size, 0, none⟩ 2 (.slice A3 n3 n3) (.slice A4 n4 n4) (by first | rfl | simp [Act.eval, Act.put]) rfl rfl (by first | exact cell_two0 w10 _ _ _ | simp) (by first | exact cell_two1 w10 _ _ _ | simp) (by omega) (by simp; omega) ?_; intro v11 w11 p1 p2; have HST := hide (book_two (Wx := w10.alloc (.cells #[.slice A3 n3 n3, .slice A4 n4 n4] 22)) (HBK10.out.alloc _) (HOW10.out.alloc _) (HK10.out.alloc _) (HBW10.out.alloc (by omega) _) (by simp; omega) (by omega) p1 (by first | exact p2 | exact grown_alike p2 rfl rfl rfl rfl)); have hc11 := (cell_of_blk HST.out.2.2.2.2.2).1; have hf11 := (cell_of_blk HST.out.2.2.2.2.2).2; obtain ⟨gn, cn, rfl, hgn1, hgn2⟩ := own_shape p1 (by omega); clear p1 p2))
          all_goals
            go_wp2
            go_roundw
            case rel =>
              obtain ⟨s1, s2, s3, s4, s5, s6⟩ := HST.out
              refine ⟨k + 1, _, by omega, by go_num, hide (show Book _ _ _ _ from s1), hide ?_, hide (Keeps.alike s3 rfl), hide (below_alike s4 rfl rfl rfl rfl)⟩
              rw [HTW.out, show 2 * (k + 1) = 2 * k + 2 by omega]
              exact (show World.ownsRow _ _ _ _ _ _ _ from s2)
            case measure => simp [intOf]; omega
        · have hk4' : k = 4 := by omega
          subst hk4'
          have HE8 : Hid (Ents w8 B (gents l most G ++ [(o1, X), (o2, Y)])) := by
            have e1 : Ents w8 B (gents l most G ++ [(o1, X)]) := HEN8.out.add HN1.out HXL.out (fun g hg => ⟨by have := (HLX.out g hg).1; omega, (HLX.out g hg).2, fun j hj g' hg' => by
              have h1 := HEN.out.top hj hg'
              have h2 := (HLX.out g hg).1
              omega⟩)
            have e2 := e1.add (e := (o2, Y)) HN2.out HYL.out (fun g hg => ⟨by have := (HLY.out g hg).1; omega, (HLY.out g hg).2, fun j hj g' hg' => by
              by_cases hlt' : j < (gents l most G).length
              · rw [List.getElem_append_left hlt'] at hg'
                have h1 := HEN.out.top hlt' hg'
                have h2 := (HLY.out g hg).1
                omega
              · have he' : j = (gents l most G).length := by simp at hj; omega
                subst he'
                rw [List.getElem_append_right (Nat.le_refl _)] at hg'
                simp at hg'
                exact HN5.out g' g hg' hg⟩)
            rw [List.append_assoc] at e2
            exact e2
          have HG4 : Hid (G.take 4 = G) := List.take_of_length_le (by rw [HGL.out]; omega)
          rw [HG4.out] at HOWr
          have hzr : B + 2 ≤ wr.heap.size := Nat.le_trans hB8 HBWr.out.size
          have HFr : Hid (FB4 wr w5.heap.size (.int .i64 K) (.int .i64 C) (.slice A1 nX nX) (.slice A2 nY nY)) := HKE.out _ _ _ _ (by decide) (by decide) HFB8.out
          obtain ⟨f0, f1, f2, f3⟩ := HFr.out.cells
          have hcb := (cell_of_blk HBKr.out).1
          have hfb := (cell_of_blk HBKr.out).2
          have hcbA : (wr.alloc (.cells #[.slice A1 nX nX, .slice A2 nY nY] 22)).cell? ⟨B + 1, 0, none⟩ = some v := (cell_of_blk (HBKr.out.alloc _)).1
          have hltA : B + 1 < wr.heap.size := by omega
          go_wp2
          go_region_law (first
            | (refine step_append_lists rfl (.tmp 186) (.tmp 191) rfl B v (2 * 4) ((gents l most G).map ev) (by first | rfl | simp [Act.eval, Act.put]) (show World.ownsRow _ _ _ _ _ _ _ from HOWr.out.alloc (.cells #[.slice A1 nX nX, .slice A2 nY nY] 22)) ⟨wr.heap.size, 0, none⟩ 2 (.slice A1 nX nX) (.slice A2 nY nY) (by first | rfl | simp [Act.eval, Act.put]) rfl rfl (by first | exact cell_two0 wr _ _ _ | simp) (by first | exact cell_two1 wr _ _ _ | simp) (by omega) (by simp; omega) ?_; intro v11 w11 p1 p2; have HST := hide (book_two (Wx := wr.alloc (.cells #[.slice A1 nX nX, .slice A2 nY nY] 22)) (HBKr.out.alloc _) (HOWr.out.alloc _) (HKE.out.alloc _) (HBWr.out.alloc (by omega) _) (by simp; omega) (by omega) p1 (by first | exact p2 | exact grown_alike p2 rfl rfl rfl rfl)); have hc11 := (cell_of_blk HST.out.2.2.2.2.2).1; have hf11 := (cell_of_blk HST.out.2.2.2.2.2).2; obtain ⟨gn, cn, rfl, hgn1, hgn2⟩ := own_shape p1 (by omega); clear p1 p2))
          all_goals
            obtain ⟨s1, s2, s3, s4, s5, s6⟩ := HST.out
            have HL10 : Hid ((gents l most G ++ [(o1, X), (o2, Y)]).length = 10) := by show _ = _; rw [List.length_append, gents_length, HGL.out]; rfl
            have HEW : Hid (Ents (w11.setCell ⟨B + 1, 0, none⟩ (.slice (some ⟨gn, 0, none⟩) (2 * 4 + 2) cn)) B (gents l most G ++ [(o1, X), (o2, Y)])) := HE8.out.keep fun g L _ hL => s3 _ _ _ _ (by decide) (by decide) hL
            have hmap : (gents l most G ++ [(o1, X), (o2, Y)]).map ev = (gents l most G).map ev ++ [.slice A1 nX nX, .slice A2 nY nY] := by rw [List.map_append, HA1.out, HA2.out, HnX.out, HnY.out]; rfl
            have howw : (w11.setCell ⟨B + 1, 0, none⟩ (.slice (some ⟨gn, 0, none⟩) (2 * 4 + 2) cn)).ownsRow B 22 1 (.slice (some ⟨gn, 0, none⟩) (2 * 4 + 2) cn) (gents l most G ++ [(o1, X), (o2, Y)]).length ((gents l most G ++ [(o1, X), (o2, Y)]).map ev) := by
              rw [hmap, HL10.out]
              exact s2
            have HOWW := hide howw
            clear howw hmap
            have HOE := hide (fun W (e1 : W.heap = (w11.setCell ⟨B + 1, 0, none⟩ (.slice (some ⟨gn, 0, none⟩) (2 * 4 + 2) cn)).heap) => owned_ents (B + 1) B (.slice (some ⟨gn, 0, none⟩) (2 * 4 + 2) cn) (gents l most G ++ [(o1, X), (o2, Y)]) W (by have h := s1; unfold Book at *; rw [e1]; exact h) (by have h := HOWW.out; unfold World.ownsRow at *; rw [e1]; exact h) (HEW.out.keep fun g L _ hL => by unfold Bl at *; rw [e1]; exact hL) (by rw [HL10.out]; omega) (by rw [HL10.out]; omega) (fun j hj => by
              have hm := List.getElem_mem hj
              rcases List.mem_append.1 hm with h | h
              · exact gents_small l most G _ h
              · have := HXYn.out
                simp at h
                rcases h with h | h
                · rw [h]; show X.length ≤ _; omega
                · rw [h]; show Y.length ≤ _; omega))
            have HB8W : Hid (Below B w8 (w11.setCell ⟨B + 1, 0, none⟩ (.slice (some ⟨gn, 0, none⟩) (2 * 4 + 2) cn))) := s4
            clear s1 s2 s3 s4 s5 s6 HST
            go_wp2_with fail
            refine (HOE.out _ rfl).mono ?_
            rintro e w12 ⟨rfl, hk12⟩
            have HFIN : Hid (Below w.heap.size w w12) := by
              have e1 := HFW8.out.trans (HB8W.out.mono HWB.out)
              first
              | exact e1.trans (hk12.toBelow e1.size (fun k hk => by have := HWB.out; omega))
              | (have e2 := below_alike e1 (w2 := _) rfl rfl rfl rfl; exact e2.trans (hk12.toBelow e2.size (fun k hk => by have := HWB.out; omega)))
              | exact (below_alike e1 rfl rfl rfl rfl).trans (hk12.toBelow (by exact e1.size) (fun k hk => by have := HWB.out; omega))
            clear hk12
            go_wp2
            go_ret
            exact ⟨rfl, HFIN.out⟩
end Go.Proofs.Ytjofaelgkfohpaa
