/- HLaidW -/
import Derived.Test.YtgldcchleoklcaaGreatDoorF14
import Derived.Deep.RegionHeld
namespace Go.Proofs.YtgldcchleoklcaaGreatDoor
open Go.RowKit
set_option linter.unusedVariables false
set_option linter.unusedSimpArgs false
def LaidPost (n₀ : Nat) (kind : Int) (l ds : List V) (w : World) (e : Ending) (w' : World) : Prop := ∃ (a2 a3 : Option Addr) (c2 c3 : Nat), e = .returned (.agg #[.int .i64 24, .int .u64 0, .string ⟨#[]⟩, .slice a2 2 c2, .int .i64 0]) ∧
  Hid (LiesIn (fun q => q < n₀ ∨ (w.heap.size ≤ q ∧ q < w'.heap.size)) w' (.of 24 0 ⟨#[]⟩ a2 c2 0 [leaf 5 kind ⟨#[]⟩, .of 21 0 ⟨#[]⟩ a3 c3 0 ((outs l ds).take (saidN l ds l.length))])) ∧ Below w.heap.size w w'
set_option maxRecDepth 100000 in
set_option maxHeartbeats 8000000 in
theorem laid_gen (n₀ : Nat) (kind : Int) (hk0 : 0 ≤ kind) (hk1 : kind ≤ 9223372036854775807) (l ds : List V) (hd : ds.length = l.length) (b c : Nat) (h0 : 0 < l.length) (hc : l.length ≤ c) (hcc : l.length ≤ 1000) (w : World) (hn : n₀ ≤ w.heap.size) (hlt : b < w.heap.size) (hr : Row w b 0 l)
    (hls : ∀ x ∈ l, Lies n₀ w x) (hds : ∀ d ∈ ds, ∀ W, Lies w.heap.size W d)
    (hF : ∀ W, Below w.heap.size w W → Calls Tryz.prog 8 #[.int .i64 kind] W (FieldsPost l.length ds W)) :
    Calls Tryz.prog 99 #[.agg #[.int .i64 kind, .slice (some ⟨b, 0, none⟩) l.length c]] w (LaidPost n₀ kind l ds w) := by
  obtain ⟨W0, hW0⟩ : ∃ W0, (w.alloc (Obj.cells #[.int .i64 kind, .slice (some ⟨b, 0, none⟩) l.length c] 33)).alloc (Obj.cells #[.int .i64 0, .int .u64 0, .string ⟨#[]⟩, .slice none 0 0, .int .i64 0] 42) = W0 := ⟨_, rfl⟩
  have hs0 : W0.heap.size = w.heap.size + 2 := by rw [← hW0]; simp
  have hb0 : Below w.heap.size w W0 := by rw [← hW0]; exact bel2 (Below.refl _ _) (Nat.le_refl _) _ _
  have xr : BoxR W0 w.heap.size kind (some ⟨b, 0, none⟩) l.length c := by rw [← hW0]; exact heap_past (World.alloc_heap_new _ _) _
  have xz : BoxV W0 (w.heap.size + 1) (.of 0 0 ⟨#[]⟩ none 0 0 []) := by
    rw [← hW0]
    unfold BoxV
    rw [V.k_of, V.n_of, V.s_of, V.a_of, V.l_of, V.c_of, V.e_of]
    exact heap_at1 _ _ _
  have HF := hide hF
  have HR := hide hr
  have HLS := hide hls
  have HDS := hide hds
  have HW0 := hide hW0
  have HD := hide hd
  clear hW0 hF hr hls hds hd
  go_enter Tryz.func99, Tryz.ntmps99
  go_wp2_with fail
  rw [HW0.out]
  clear HW0
  refine (HF.out _ hb0).mono ?_
  rintro e1 w1 ⟨af, fs, rfl, HFS, hb1⟩
  have hs1 := hb1.size
  have hbw1 : Below w.heap.size w w1 := belOn hb0 (by omega) hb1
  obtain ⟨⟨hfd, hfl⟩, hff⟩ := HFS.out
  obtain ⟨bf, rfl, hbf1, hbf2, hfr⟩ := hff h0
  have HFR := hide hfr
  have HFD := hide hfd
  have HFL := hide hfl
  clear hfr hff hfd hfl HFS
  have hmk := run_makeV l.length l.length (Nat.le_refl _) (by omega)
  go_wp2
  obtain ⟨W1, hW1⟩ : ∃ W1, w1.alloc (Obj.cells (madeCells zeroV (l.length * 5)) 42) = W1 := ⟨_, rfl⟩
  have hsW1 : W1.heap.size = w1.heap.size + 1 := by rw [← hW1]; simp
  have hbW1 : Below w.heap.size w W1 := by rw [← hW1]; exact bel1 hbw1 (by omega) _
  have hb01 : Below W0.heap.size W0 W1 := by rw [← hW1]; exact bel1 hb1 (by omega) _
  have hk1' : Blk W1 w1.heap.size 42 (l.length * 5) := by rw [← hW1]; exact Blk.made _ _ _ _
  have hrf1 : RowF W1 w1.heap.size l.length (gOuts l ds 0) := by
    rw [← hW1]
    exact (RowF.made w1 l.length).eq (fun j hj => by simp [gOuts])
  have hfr1 : FRow W1 bf fs := by rw [← hW1]; exact HFR.out.below (bel1 (Below.refl _ _) (Nat.le_refl _) _) hbf2
  rw [hW1]
  have HFR1 := hide hfr1
  have HK1 := hide hk1'
  have HRF1 := hide hrf1
  clear hW1 hmk hfr1 hk1' hrf1 HFR
  go_loopw [20, 6] (fun u s wr => ∃ (i : Nat), u = .int .i64 i ∧ s = .int .i64 (saidN l ds i : Nat) ∧ i ≤ l.length ∧ Below W0.heap.size W0 wr ∧ W1.heap.size ≤ wr.heap.size ∧ Hid (FRow wr bf fs) ∧ Hid (Blk wr w1.heap.size 42 (l.length * 5)) ∧ Hid (RowF wr w1.heap.size l.length (gOuts l ds i))) (fun u _ _ => l.length + 1 - (intOf u).toNat)
  case atStart => exact ⟨0, rfl, rfl, Nat.zero_le _, hb01, Nat.le_refl _, HFR1, HK1, HRF1⟩
  case round =>
    obtain ⟨i, rfl, rfl, hi, hb, hsz, HFRr, HKr, HRFr⟩ := hrel
    have hsb := hb.size
    have hbw : Below w.heap.size w wr := belOn hb0 (by omega) hb
    have hsd := saidN_le l ds i
    by_cases hil : i < l.length
    · have hfi : i < fs.length := by rw [HFL.out]; exact hil
      have hdi : i < ds.length := by rw [HD.out]; exact hil
      have hF0 : (fs[i]'hfi).d = ds[i]'hdi := by
        have h1 : (fs.map Fd.d)[i]? = ds[i]? := by rw [HFD.out]
        rw [List.getElem?_map, List.getElem?_eq_getElem hfi, List.getElem?_eq_getElem hdi] at h1
        exact Option.some.inj h1
      obtain ⟨c0, c1, c2, c3, c4, c5, c6, c7, c8⟩ := HFRr.out.cells i hfi
      generalize (fs[i]'hfi) = F at c0 c1 c2 c3 c4 c5 c6 c7 c8 hF0
      obtain ⟨WR, hWR⟩ : ∃ WR, wr.alloc (.cells F.cs 66) = WR := ⟨_, rfl⟩
      have hsR : WR.heap.size = wr.heap.size + 1 := by rw [← hWR]; simp
      have hbR : Below w.heap.size w WR := by rw [← hWR]; exact bel1 hbw (by omega) _
      have hbR0 : Below W0.heap.size W0 WR := by rw [← hWR]; exact bel1 hb (by omega) _
      have hbRr : Below wr.heap.size wr WR := by rw [← hWR]; exact bel1 (Below.refl _ _) (Nat.le_refl _) _
      have xF : BoxF WR wr.heap.size F := by rw [← hWR]; exact World.alloc_heap_new _ _
      have HS : Hid (∀ W', Below WR.heap.size WR W' → (fun W' => W'.cell? ⟨w.heap.size, 1, none⟩ = some (.slice (some ⟨b, 0, none⟩) l.length c) ∧ W'.cell? ⟨b, i * 5, none⟩ = some (.int .i64 l[i].k) ∧ W'.cell? ⟨b, i * 5 + 1, none⟩ = some (.int .u64 l[i].n) ∧ W'.cell? ⟨b, i * 5 + 2, none⟩ = some (.string l[i].s) ∧ W'.cell? ⟨b, i * 5 + 3, none⟩ = some (.slice l[i].a l[i].l.length l[i].c) ∧ W'.cell? ⟨b, i * 5 + 4, none⟩ = some (.int .i64 l[i].e) ∧ W'.cell? ⟨wr.heap.size, 4, none⟩ = some (.int .i64 F.d.k) ∧ W'.cell? ⟨wr.heap.size, 5, none⟩ = some (.int .u64 F.d.n) ∧ W'.cell? ⟨wr.heap.size, 6, none⟩ = some (.string F.d.s) ∧ W'.cell? ⟨wr.heap.size, 7, none⟩ = some (.slice F.d.a F.d.l.length F.d.c) ∧ W'.cell? ⟨wr.heap.size, 8, none⟩ = some (.int .i64 F.d.e)) W') := by
        intro W' hb'
        have hbW := belOn hbR (by omega) hb'
        have hbW0 := belOn hbR0 (by omega) hb'
        obtain ⟨q0, q1, q2, q3, q4⟩ := (HR.out.below hbW hlt) i hil
        simp only [Nat.zero_add] at q0 q1 q2 q3 q4
        obtain ⟨g0, g1, g2, g3, g4, g5, g6, g7, g8⟩ := (xF.below hb' (by omega)).cells
        exact ⟨(xr.below hbW0 (by omega)).cells.2, q0, q1, q2, q3, q4, g4, g5, g6, g7, g8⟩
      have HB0 : Hid (Below WR.heap.size WR WR.drew) := (Below.refl _ _).drew
      have he := equal_any l[i] F.d w.heap.size WR.drew (by show _ ≤ WR.heap.size; omega) (((HLS.out _ (List.getElem_mem hil)).keep hbR.drew hn).mono hn) (by rw [hF0]; exact HDS.out _ (List.getElem_mem hdi) _)
      rw [V.val_eq, V.val_eq] at he
      have hst := saidN_step l ds i hil hdi
      have hge := gOuts_eq l ds i HD.out hil
      have hgn := gOuts_ne l ds i HD.out hil
      rw [← hF0] at hst hge hgn
      have HE := hide he
      have HST := hide hst
      have HGE := hide hge
      have HGN := hide hgn
      have HWR := hide hWR
      unfold Fd.cs at HWR
      have hbfr : bf < wr.heap.size := by omega
      clear he hst hge hgn hWR hF0
      generalize hg : eqT l[i].t F.d.t = r at HE HST HGE HGN
      clear hg
      go_wp2_with fail
      rw [HWR.out]
      go_region_held (fun W' => W'.cell? ⟨w.heap.size, 1, none⟩ = some (.slice (some ⟨b, 0, none⟩) l.length c) ∧ W'.cell? ⟨b, i * 5, none⟩ = some (.int .i64 l[i].k) ∧ W'.cell? ⟨b, i * 5 + 1, none⟩ = some (.int .u64 l[i].n) ∧ W'.cell? ⟨b, i * 5 + 2, none⟩ = some (.string l[i].s) ∧ W'.cell? ⟨b, i * 5 + 3, none⟩ = some (.slice l[i].a l[i].l.length l[i].c) ∧ W'.cell? ⟨b, i * 5 + 4, none⟩ = some (.int .i64 l[i].e) ∧ W'.cell? ⟨wr.heap.size, 4, none⟩ = some (.int .i64 F.d.k) ∧ W'.cell? ⟨wr.heap.size, 5, none⟩ = some (.int .u64 F.d.n) ∧ W'.cell? ⟨wr.heap.size, 6, none⟩ = some (.string F.d.s) ∧ W'.cell? ⟨wr.heap.size, 7, none⟩ = some (.slice F.d.a F.d.l.length F.d.c) ∧ W'.cell? ⟨wr.heap.size, 8, none⟩ = some (.int .i64 F.d.e)) (first | exact HS.out _ HB2.out | exact HS.out _ HB0.out) ((go_at_call 114; refine Calls.mono HE.out ?_; rintro e2 w2 ⟨rfl, hb2⟩; have HB2 : Hid (Below WR.heap.size WR w2) := belOn HB0.out HB0.out.size hb2; clear hb2))
      have hs2 := HB2.out.size
      have hbr2 : Below wr.heap.size wr w2 := belOn hbRr (by omega) HB2.out
      have hk2 : Blk w2 w1.heap.size 42 (l.length * 5) := HKr.out.below hbr2 (by omega)
      have hrf2 : RowF w2 w1.heap.size l.length (gOuts l ds i) := HRFr.out.below hbr2 (by omega)
      have hfr2 : FRow w2 bf fs := HFRr.out.below hbr2 hbfr
      have hb02 : Below W0.heap.size W0 w2 := belOn hbR0 (by omega) HB2.out
      cases r
      · obtain ⟨p0, p1, p2, p3, p4, p5, p6, p7, p8, p9, p10⟩ := HS.out _ HB2.out
        obtain ⟨z0, y0⟩ := hk2.some (i * 5) (by omega)
        obtain ⟨z1, y1⟩ := hk2.some (i * 5 + 1) (by omega)
        obtain ⟨z2, y2⟩ := hk2.some (i * 5 + 2) (by omega)
        obtain ⟨z3, y3⟩ := hk2.some (i * 5 + 3) (by omega)
        obtain ⟨z4, y4⟩ := hk2.some (i * 5 + 4) (by omega)
        have fz := hk2.free
        have HK2 := hide hk2
        have HRF2 := hide hrf2
        have HFR2 := hide hfr2
        clear hk2 hrf2 hfr2 p6 p7 p8 p9 p10
        have hlw : w1.heap.size < w2.heap.size := by omega
        have hbw2 : b < w2.heap.size := by omega
        go_wp2
        go_roundw
        case rel =>
          have hpb := put5_below (y := l[i]) (o := i * 5) (b := w1.heap.size) hb02 (by omega)
          have hpk := put5_blk HK2.out (i * 5) l[i]
          have hpr := (RowF.put l[i] HK2.out HRF2.out hil (Nat.le_refl _)).eq (fun j _ => HGN.out rfl j)
          have hpf : FRow (put5 w2 w1.heap.size (i * 5) l[i]) bf fs := fun q hq j hj => (put5_same _ _ _ _ _ (by omega) _).trans (HFR2.out q hq j hj)
          have hps := put5_size w2 w1.heap.size (i * 5) l[i]
          rw [← put5_eq] at hpb hpk hpr hpf hps
          exact ⟨i + 1, by go_num, by rw [HST.out]; go_num, by omega, hpb, by omega, hpf, hpk, hpr⟩
        case measure => simp [intOf]; omega
      · have HK2 := hide hk2
        have HRF2 := hide hrf2
        have HFR2 := hide hfr2
        clear hk2 hrf2 hfr2
        go_wp2
        go_roundw
        case rel => exact ⟨i + 1, by go_num, by rw [HST.out]; go_num, by omega, hb02, by omega, HFR2.out, HK2.out, HRF2.out.eq (fun j _ => HGE.out rfl j)⟩
        case measure => simp [intOf]; omega
    · have hie : i = l.length := by omega
      subst hie
      have HN := hide (fun W => numbered_any kind hk0 hk1 W)
      rw [leaf_val] at HN
      obtain ⟨r0, r1⟩ := (xr.below hb (by omega)).cells
      have hmx : Tryz.prog.follows .mixedOrders = true := by kernel_rfl
      have hw0 : w.heap.size < wr.heap.size := by omega
      generalize hm : saidN l ds l.length = m at hsd
      have hwz : w.heap.size + 1 < wr.heap.size := by omega
      have HM := hide hm
      have hbr : Below wr.heap.size wr wr.drew := (Below.refl _ _).drew
      have HBR := hide hbr
      clear hm hbr
      go_wp2_with fail
      go_region_with ((go_at_call 115; refine Calls.mono (HN.out _) ?_; rintro e2 w2 ⟨rfl, hb2⟩; have HB2 : Hid (Below wr.heap.size wr w2) := belOn HBR.out HBR.out.size hb2; clear hb2; have hs5 := HB2.out.size; have hb02 := belOn hb hsb HB2.out; have xz1 := xz.below hb02 (by omega); obtain ⟨z0, z1, z2, z3, z4⟩ := xz1.cells; have fz := (show Blk w2 (w.heap.size + 1) 42 5 from ⟨_, xz1, rfl⟩).free; have hz5 : w.heap.size + 1 < w2.heap.size := (by omega); clear xz1))
      all_goals
        obtain ⟨P, hPe⟩ : ∃ P, put5 w2 (w.heap.size + 1) 0 (.of 24 0 ⟨#[]⟩ (some ⟨w2.heap.size, 0, none⟩) 2 0 [leaf 0 0 ⟨#[]⟩, leaf 0 0 ⟨#[]⟩]) = P := ⟨_, rfl⟩
        have hbw2 : Below w.heap.size w w2 := belOn hb0 (by omega) hb02
        have hPs : P.heap.size = w2.heap.size := by rw [← hPe]; exact put5_size _ _ _ _
        have hPb : Below w.heap.size w P := by rw [← hPe]; exact put5_below hbw2 (by omega)
        have hPm : ∀ b', b' ≠ w.heap.size + 1 → Same w2 P b' := fun b' hb' => by rw [← hPe]; exact put5_same _ _ _ _ _ hb'
        have hPz : BoxV P (w.heap.size + 1) (.of 24 0 ⟨#[]⟩ (some ⟨w2.heap.size, 0, none⟩) 2 0 [leaf 0 0 ⟨#[]⟩, leaf 0 0 ⟨#[]⟩]) → True := fun _ => trivial
        rw [← put5_of] at hPe
        have hPe' : ((((w2.setCell ⟨w.heap.size + 1, 0, none⟩ (.int .i64 24)).setCell ⟨w.heap.size + 1, 1, none⟩ (.int .u64 0)).setCell ⟨w.heap.size + 1, 2, none⟩ (.string ⟨#[]⟩)).setCell ⟨w.heap.size + 1, 3, none⟩ (.slice (some ⟨w2.heap.size, 0, none⟩) 2 2)).setCell ⟨w.heap.size + 1, 4, none⟩ (.int .i64 0) = P := hPe
        have HRFr2 := HRFr
        have HPE := hide hPe'
        have HPM := hide hPm
        clear hPe hPe' hPm hPz
        go_wp2
        have hq0 : ∀ q, q < 5 → P.cell? ⟨w.heap.size + 1, q, none⟩ = (words (.of 24 0 ⟨#[]⟩ (some ⟨w2.heap.size, 0, none⟩) 2 0 [leaf 0 0 ⟨#[]⟩, leaf 0 0 ⟨#[]⟩]))[q]? := fun q hq => by
          have := put5_cell (w := w2) (b := w.heap.size + 1) (o := 0) (y := .of 24 0 ⟨#[]⟩ (some ⟨w2.heap.size, 0, none⟩) 2 0 [leaf 0 0 ⟨#[]⟩, leaf 0 0 ⟨#[]⟩]) (t := 42) (m := 5) ⟨_, xz.below hb02 (by omega), rfl⟩ (by omega) q hq
          rw [← put5_of] at this
          simp only [Nat.zero_add] at this
          rw [← HPE.out]
          exact this
        rw [HPE.out]
        have hbf : Below w2.heap.size P (P.alloc (Obj.cells #[.int .i64 5, .int .u64 kind, .string ⟨#[]⟩, .slice none 0 0, .int .i64 0, .int .i64 21, .int .u64 0, .string ⟨#[]⟩, .slice (some ⟨w1.heap.size, 0, none⟩) m l.length, .int .i64 0] 42)) := bel1 (Below.refl _ _) (by omega) _
        have hbfw := bel1 hPb (by omega) (Obj.cells #[.int .i64 5, .int .u64 kind, .string ⟨#[]⟩, .slice none 0 0, .int .i64 0, .int .i64 21, .int .u64 0, .string ⟨#[]⟩, .slice (some ⟨w1.heap.size, 0, none⟩) m l.length, .int .i64 0] 42)
        have e0 : (P.alloc (Obj.cells #[.int .i64 5, .int .u64 kind, .string ⟨#[]⟩, .slice none 0 0, .int .i64 0, .int .i64 21, .int .u64 0, .string ⟨#[]⟩, .slice (some ⟨w1.heap.size, 0, none⟩) m l.length, .int .i64 0] 42)).heap[w2.heap.size]? = some (.cells #[.int .i64 5, .int .u64 kind, .string ⟨#[]⟩, .slice none 0 0, .int .i64 0, .int .i64 21, .int .u64 0, .string ⟨#[]⟩, .slice (some ⟨w1.heap.size, 0, none⟩) m l.length, .int .i64 0] 42 (0, 0)) := by
          rw [← hPs]
          exact World.alloc_heap_new _ _
        have e1 : RowF P w1.heap.size l.length (gOuts l ds l.length) := (HRFr2.out.below HB2.out (by omega)).same (HPM.out _ (by omega))
        generalize hQ : P.alloc (Obj.cells #[.int .i64 5, .int .u64 kind, .string ⟨#[]⟩, .slice none 0 0, .int .i64 0, .int .i64 21, .int .u64 0, .string ⟨#[]⟩, .slice (some ⟨w1.heap.size, 0, none⟩) m l.length, .int .i64 0] 42) = Q at hbf hbfw e0 ⊢
        have hQs : Q.heap.size = w2.heap.size + 1 := by rw [← hQ]; simp; omega
        have hcq : ∀ q, Q.cell? ⟨w.heap.size + 1, q, none⟩ = P.cell? ⟨w.heap.size + 1, q, none⟩ := fun q => hbf.cell (p := ⟨w.heap.size + 1, q, none⟩) (by show w.heap.size + 1 < _; omega)
        have j0 : Q.cell? ⟨w.heap.size + 1, 0, none⟩ = some (.int .i64 24) := (hcq 0).trans (hq0 0 (by omega))
        have j1 : Q.cell? ⟨w.heap.size + 1, 1, none⟩ = some (.int .u64 0) := (hcq 1).trans (hq0 1 (by omega))
        have j2 : Q.cell? ⟨w.heap.size + 1, 2, none⟩ = some (.string ⟨#[]⟩) := (hcq 2).trans (hq0 2 (by omega))
        have j3 : Q.cell? ⟨w.heap.size + 1, 3, none⟩ = some (.slice (some ⟨w2.heap.size, 0, none⟩) 2 2) := (hcq 3).trans (hq0 3 (by omega))
        have j4 : Q.cell? ⟨w.heap.size + 1, 4, none⟩ = some (.int .i64 0) := (hcq 4).trans (hq0 4 (by omega))
        refine bodyPost_ret (v := .agg #[.int .i64 24, .int .u64 0, .string ⟨#[]⟩, .slice (some ⟨w2.heap.size, 0, none⟩) 2 2, .int .i64 0]) (by simp [results, Tryz.results99, go_sem, j0, j1, j2, j3, j4]) rfl ⟨some ⟨w2.heap.size, 0, none⟩, some ⟨w1.heap.size, 0, none⟩, 2, l.length, rfl, ?_, hbfw⟩
        show LiesIn (fun q => q < n₀ ∨ (w.heap.size ≤ q ∧ q < Q.heap.size)) Q _
        rw [HM.out]
        exact laid_lies _ kind hk0 hk1 l ds HD.out hcc m (by omega) Q w2.heap.size w1.heap.size (.inr ⟨by omega, by omega⟩) (.inr ⟨by omega, by omega⟩) e0 (e1.below hbf (by omega)) (fun x hx => LiesIn.keep ((HLS.out x hx).keep hbfw hn) (fun _ _ _ => rfl) (fun _ h => .inl h))
end Go.Proofs.YtgldcchleoklcaaGreatDoor
