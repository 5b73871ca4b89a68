/- HLaidW, HPacked, HGSpec, HGRead, HGRead2, HRDep -/
import Derived.Test.YtgldcchleoklcaaGreatDoorP18
import Derived.Test.YtgldcchleoklcaaGreatDoorP13
import Derived.Test.YtgldcchleoklcaaGreatDoorP19
import Derived.Test.YtgldcchleoklcaaGreatDoorP06
import Derived.Deep.RegionHeld
namespace Go.Proofs.YtgldcchleoklcaaGreatDoor
open Go.RowKit
set_option linter.unusedVariables false
set_option linter.unusedSimpArgs false
def LaidPost (n₀ : Nat) (kind : Int) (l ds : List V) (w : World) (e : Ending) (w' : World) : Prop := ∃ (a2 a3 : Option Addr) (c2 c3 : Nat), e = .returned (.agg #[.int .i64 24, .int .u64 0, .string ⟨#[]⟩, .slice a2 2 c2, .int .i64 0]) ∧
  Hid (LiesIn (fun q => q < n₀ ∨ (w.heap.size ≤ q ∧ q < w'.heap.size)) w' (.of 24 0 ⟨#[]⟩ a2 c2 0 [leaf 5 kind ⟨#[]⟩, .of 21 0 ⟨#[]⟩ a3 c3 0 ((outs l ds).take (saidN l ds l.length))])) ∧ Below w.heap.size w w'
set_option maxRecDepth 100000 in
set_option maxHeartbeats 8000000 in
theorem laid_gen (n₀ : Nat) (kind : Int) (hk0 : 0 ≤ kind) (hk1 : kind ≤ 9223372036854775807) (l ds : List V) (hd : ds.length = l.length) (b c : Nat) (h0 : 0 < l.length) (hc : l.length ≤ c) (hcc : l.length ≤ 1000) (w : World) (hn : n₀ ≤ w.heap.size) (hlt : b < w.heap.size) (hr : Row w b 0 l)
    (hls : ∀ x ∈ l, Lies n₀ w x) (hds : ∀ d ∈ ds, ∀ W, Lies w.heap.size W d)
    (hF : ∀ W, Below w.heap.size w W → Calls Tryz.prog 8 #[.int .i64 kind] W (FieldsPost l.length ds W)) :
    Calls Tryz.prog 99 #[.agg #[.int .i64 kind, .slice (some ⟨b, 0, none⟩) l.length c]] w (LaidPost n₀ kind l ds w) := by
  obtain ⟨W0, hW0⟩ : ∃ W0, (w.alloc (Obj.cells #[.int .i64 kind, .slice (some ⟨b, 0, none⟩) l.length c] 33)).alloc (Obj.cells #[.int .i64 0, .int .u64 0, .string ⟨#[]⟩, .slice none 0 0, .int .i64 0] 42) = W0 := ⟨_, rfl⟩
  have hs0 : W0.heap.size = w.heap.size + 2 := by rw [← hW0]; simp
  have hb0 : Below w.heap.size w W0 := by rw [← hW0]; exact bel2 (Below.refl _ _) (Nat.le_refl _) _ _
  have xr : BoxR W0 w.heap.size kind (some ⟨b, 0, none⟩) l.length c := by rw [← hW0]; exact heap_past (World.alloc_heap_new _ _) _
  have xz : BoxV W0 (w.heap.size + 1) (.of 0 0 ⟨#[]⟩ none 0 0 []) := by
    rw [← hW0]
    unfold BoxV
    rw [V.k_of, V.n_of, V.s_of, V.a_of, V.l_of, V.c_of, V.e_of]
    exact heap_at1 _ _ _
  have HF := hide hF
  have HR := hide hr
  have HLS := hide hls
  have HDS := hide hds
  have HW0 := hide hW0
  have HD := hide hd
  clear hW0 hF hr hls hds hd
  go_enter Tryz.func99, Tryz.ntmps99
  go_wp2_with fail
  rw [HW0.out]
  clear HW0
  refine (HF.out _ hb0).mono ?_
  rintro e1 w1 ⟨af, fs, rfl, HFS, hb1⟩
  have hs1 := hb1.size
  have hbw1 : Below w.heap.size w w1 := belOn hb0 (by omega) hb1
  obtain ⟨⟨hfd, hfl⟩, hff⟩ := HFS.out
  obtain ⟨bf, rfl, hbf1, hbf2, hfr⟩ := hff h0
  have HFR := hide hfr
  have HFD := hide hfd
  have HFL := hide hfl
  clear hfr hff hfd hfl HFS
  have hmk := run_makeV l.length l.length (Nat.le_refl _) (by omega)
  go_wp2
  obtain ⟨W1, hW1⟩ : ∃ W1, w1.alloc (Obj.cells (madeCells zeroV (l.length * 5)) 42) = W1 := ⟨_, rfl⟩
  have hsW1 : W1.heap.size = w1.heap.size + 1 := by rw [← hW1]; simp
  have hbW1 : Below w.heap.size w W1 := by rw [← hW1]; exact bel1 hbw1 (by omega) _
  have hb01 : Below W0.heap.size W0 W1 := by rw [← hW1]; exact bel1 hb1 (by omega) _
  have hk1' : Blk W1 w1.heap.size 42 (l.length * 5) := by rw [← hW1]; exact Blk.made _ _ _ _
  have hrf1 : RowF W1 w1.heap.size l.length (gOuts l ds 0) := by
    rw [← hW1]
    exact (RowF.made w1 l.length).eq (fun j hj => by simp [gOuts])
  have hfr1 : FRow W1 bf fs := by rw [← hW1]; exact HFR.out.below (bel1 (Below.refl _ _) (Nat.le_refl _) _) hbf2
  rw [hW1]
  have HFR1 := hide hfr1
  have HK1 := hide hk1'
  have HRF1 := hide hrf1
  clear hW1 hmk hfr1 hk1' hrf1 HFR
  go_loopw [20, 6] (fun u s wr => ∃ (i : Nat), u = .int .i64 i ∧ s = .int .i64 (saidN l ds i : Nat) ∧ i ≤ l.length ∧ Below W0.heap.size W0 wr ∧ W1.heap.size ≤ wr.heap.size ∧ Hid (FRow wr bf fs) ∧ Hid (Blk wr w1.heap.size 42 (l.length * 5)) ∧ Hid (RowF wr w1.heap.size l.length (gOuts l ds i))) (fun u _ _ => l.length + 1 - (intOf u).toNat)
  case atStart => exact ⟨0, rfl, rfl, Nat.zero_le _, hb01, Nat.le_refl _, HFR1, HK1, HRF1⟩
  case round =>
    obtain ⟨i, rfl, rfl, hi, hb, hsz, HFRr, HKr, HRFr⟩ := hrel
    have hsb := hb.size
    have hbw : Below w.heap.size w wr := belOn hb0 (by omega) hb
    have hsd := saidN_le l ds i
    by_cases hil : i < l.length
    · have hfi : i < fs.length := by rw [HFL.out]; exact hil
      have hdi : i < ds.length := by rw [HD.out]; exact hil
      have hF0 : (fs[i]'hfi).d = ds[i]'hdi := by
        have h1 : (fs.map Fd.d)[i]? = ds[i]? := by rw [HFD.out]
        rw [List.getElem?_map, List.getElem?_eq_getElem hfi, List.getElem?_eq_getElem hdi] at h1
        exact Option.some.inj h1
      obtain ⟨c0, c1, c2, c3, c4, c5, c6, c7, c8⟩ := HFRr.out.cells i hfi
      generalize (fs[i]'hfi) = F at c0 c1 c2 c3 c4 c5 c6 c7 c8 hF0
      obtain ⟨WR, hWR⟩ : ∃ WR, wr.alloc (.cells F.cs 66) = WR := ⟨_, rfl⟩
      have hsR : WR.heap.size = wr.heap.size + 1 := by rw [← hWR]; simp
      have hbR : Below w.heap.size w WR := by rw [← hWR]; exact bel1 hbw (by omega) _
      have hbR0 : Below W0.heap.size W0 WR := by rw [← hWR]; exact bel1 hb (by omega) _
      have hbRr : Below wr.heap.size wr WR := by rw [← hWR]; exact bel1 (Below.refl _ _) (Nat.le_refl _) _
      have xF : BoxF WR wr.heap.size F := by rw [← hWR]; exact World.alloc_heap_new _ _
      have HS : Hid (∀ W', Below WR.heap.size WR W' → (fun W' => W'.cell? ⟨w.heap.size, 1, none⟩ = some (.slice (some ⟨b, 0, none⟩) l.length c) ∧ W'.cell? ⟨b, i * 5, none⟩ = some (.int .i64 l[i].k) ∧ W'.cell? ⟨b, i * 5 + 1, none⟩ = some (.int .u64 l[i].n) ∧ W'.cell? ⟨b, i * 5 + 2, none⟩ = some (.string l[i].s) ∧ W'.cell? ⟨b, i * 5 + 3, none⟩ = some (.slice l[i].a l[i].l.length l[i].c) ∧ W'.cell? ⟨b, i * 5 + 4, none⟩ = some (.int .i64 l[i].e) ∧ W'.cell? ⟨wr.heap.size, 4, none⟩ = some (.int .i64 F.d.k) ∧ W'.cell? ⟨wr.heap.size, 5, none⟩ = some (.int .u64 F.d.n) ∧ W'.cell? ⟨wr.heap.size, 6, none⟩ = some (.string F.d.s) ∧ W'.cell? ⟨wr.heap.size, 7, none⟩ = some (.slice F.d.a F.d.l.length F.d.c) ∧ W'.cell? ⟨wr.heap.size, 8, none⟩ = some (.int .i64 F.d.e)) W') := by
        intro W' hb'
        have hbW := belOn hbR (by omega) hb'
        have hbW0 := belOn hbR0 (by omega) hb'
        obtain ⟨q0, q1, q2, q3, q4⟩ := (HR.out.below hbW hlt) i hil
        simp only [Nat.zero_add] at q0 q1 q2 q3 q4
        obtain ⟨g0, g1, g2, g3, g4, g5, g6, g7, g8⟩ := (xF.below hb' (by omega)).cells
        exact ⟨(xr.below hbW0 (by omega)).cells.2, q0, q1, q2, q3, q4, g4, g5, g6, g7, g8⟩
      have HB0 : Hid (Below WR.heap.size WR WR.drew) := (Below.refl _ _).drew
      have he := equal_any l[i] F.d w.heap.size WR.drew (by show _ ≤ WR.heap.size; omega) (((HLS.out _ (List.getElem_mem hil)).keep hbR.drew hn).mono hn) (by rw [hF0]; exact HDS.out _ (List.getElem_mem hdi) _)
      rw [V.val_eq, V.val_eq] at he
      have hst := saidN_step l ds i hil hdi
      have hge := gOuts_eq l ds i HD.out hil
      have hgn := gOuts_ne l ds i HD.out hil
      rw [← hF0] at hst hge hgn
      have HE := hide he
      have HST := hide hst
      have HGE := hide hge
      have HGN := hide hgn
      have HWR := hide hWR
      unfold Fd.cs at HWR
      have hbfr : bf < wr.heap.size := by omega
      clear he hst hge hgn hWR hF0
      generalize hg : eqT l[i].t F.d.t = r at HE HST HGE HGN
      clear hg
      go_wp2_with fail
      rw [HWR.out]
      go_region_held (fun W' => W'.cell? ⟨w.heap.size, 1, none⟩ = some (.slice (some ⟨b, 0, none⟩) l.length c) ∧ W'.cell? ⟨b, i * 5, none⟩ = some (.int .i64 l[i].k) ∧ W'.cell? ⟨b, i * 5 + 1, none⟩ = some (.int .u64 l[i].n) ∧ W'.cell? ⟨b, i * 5 + 2, none⟩ = some (.string l[i].s) ∧ W'.cell? ⟨b, i * 5 + 3, none⟩ = some (.slice l[i].a l[i].l.length l[i].c) ∧ W'.cell? ⟨b, i * 5 + 4, none⟩ = some (.int .i64 l[i].e) ∧ W'.cell? ⟨wr.heap.size, 4, none⟩ = some (.int .i64 F.d.k) ∧ W'.cell? ⟨wr.heap.size, 5, none⟩ = some (.int .u64 F.d.n) ∧ W'.cell? ⟨wr.heap.size, 6, none⟩ = some (.string F.d.s) ∧ W'.cell? ⟨wr.heap.size, 7, none⟩ = some (.slice F.d.a F.d.l.length F.d.c) ∧ W'.cell? ⟨wr.heap.size, 8, none⟩ = some (.int .i64 F.d.e)) (first | exact HS.out _ HB2.out | exact HS.out _ HB0.out) ((go_at_call 114; refine Calls.mono HE.out ?_; rintro e2 w2 ⟨rfl, hb2⟩; have HB2 : Hid (Below WR.heap.size WR w2) := belOn HB0.out HB0.out.size hb2; clear hb2))
      have hs2 := HB2.out.size
      have hbr2 : Below wr.heap.size wr w2 := belOn hbRr (by omega) HB2.out
      have hk2 : Blk w2 w1.heap.size 42 (l.length * 5) := HKr.out.below hbr2 (by omega)
      have hrf2 : RowF w2 w1.heap.size l.length (gOuts l ds i) := HRFr.out.below hbr2 (by omega)
      have hfr2 : FRow w2 bf fs := HFRr.out.below hbr2 hbfr
      have hb02 : Below W0.heap.size W0 w2 := belOn hbR0 (by omega) HB2.out
      cases r
      · obtain ⟨p0, p1, p2, p3, p4, p5, p6, p7, p8, p9, p10⟩ := HS.out _ HB2.out
        obtain ⟨z0, y0⟩ := hk2.some (i * 5) (by omega)
        obtain ⟨z1, y1⟩ := hk2.some (i * 5 + 1) (by omega)
        obtain ⟨z2, y2⟩ := hk2.some (i * 5 + 2) (by omega)
        obtain ⟨z3, y3⟩ := hk2.some (i * 5 + 3) (by omega)
        obtain ⟨z4, y4⟩ := hk2.some (i * 5 + 4) (by omega)
        have fz := hk2.free
        have HK2 := hide hk2
        have HRF2 := hide hrf2
        have HFR2 := hide hfr2
        clear hk2 hrf2 hfr2 p6 p7 p8 p9 p10
        have hlw : w1.heap.size < w2.heap.size := by omega
        have hbw2 : b < w2.heap.size := by omega
        go_wp2
        go_roundw
        case rel =>
          have hpb := put5_below (y := l[i]) (o := i * 5) (b := w1.heap.size) hb02 (by omega)
          have hpk := put5_blk HK2.out (i * 5) l[i]
          have hpr := (RowF.put l[i] HK2.out HRF2.out hil (Nat.le_refl _)).eq (fun j _ => HGN.out rfl j)
          have hpf : FRow (put5 w2 w1.heap.size (i * 5) l[i]) bf fs := fun q hq j hj => (put5_same _ _ _ _ _ (by omega) _).trans (HFR2.out q hq j hj)
          have hps := put5_size w2 w1.heap.size (i * 5) l[i]
          rw [← put5_eq] at hpb hpk hpr hpf hps
          exact ⟨i + 1, by go_num, by rw [HST.out]; go_num, by omega, hpb, by omega, hpf, hpk, hpr⟩
        case measure => simp [intOf]; omega
      · have HK2 := hide hk2
        have HRF2 := hide hrf2
        have HFR2 := hide hfr2
        clear hk2 hrf2 hfr2
        go_wp2
        go_roundw
        case rel => exact ⟨i + 1, by go_num, by rw [HST.out]; go_num, by omega, hb02, by omega, HFR2.out, HK2.out, HRF2.out.eq (fun j _ => HGE.out rfl j)⟩
        case measure => simp [intOf]; omega
    · have hie : i = l.length := by omega
      subst hie
      have HN := hide (fun W => numbered_any kind hk0 hk1 W)
      rw [leaf_val] at HN
      obtain ⟨r0, r1⟩ := (xr.below hb (by omega)).cells
      have hmx : Tryz.prog.follows .mixedOrders = true := by kernel_rfl
      have hw0 : w.heap.size < wr.heap.size := by omega
      generalize hm : saidN l ds l.length = m at hsd
      have hwz : w.heap.size + 1 < wr.heap.size := by omega
      have HM := hide hm
      have hbr : Below wr.heap.size wr wr.drew := (Below.refl _ _).drew
      have HBR := hide hbr
      clear hm hbr
      go_wp2_with fail
      go_region_with ((go_at_call 115; refine Calls.mono (HN.out _) ?_; rintro e2 w2 ⟨rfl, hb2⟩; have HB2 : Hid (Below wr.heap.size wr w2) := belOn HBR.out HBR.out.size hb2; clear hb2; have hs5 := HB2.out.size; have hb02 := belOn hb hsb HB2.out; have xz1 := xz.below hb02 (by omega); obtain ⟨z0, z1, z2, z3, z4⟩ := xz1.cells; have fz := (show Blk w2 (w.heap.size + 1) 42 5 from ⟨_, xz1, rfl⟩).free; have hz5 : w.heap.size + 1 < w2.heap.size := (by omega); clear xz1))
      all_goals
        obtain ⟨P, hPe⟩ : ∃ P, put5 w2 (w.heap.size + 1) 0 (.of 24 0 ⟨#[]⟩ (some ⟨w2.heap.size, 0, none⟩) 2 0 [leaf 0 0 ⟨#[]⟩, leaf 0 0 ⟨#[]⟩]) = P := ⟨_, rfl⟩
        have hbw2 : Below w.heap.size w w2 := belOn hb0 (by omega) hb02
        have hPs : P.heap.size = w2.heap.size := by rw [← hPe]; exact put5_size _ _ _ _
        have hPb : Below w.heap.size w P := by rw [← hPe]; exact put5_below hbw2 (by omega)
        have hPm : ∀ b', b' ≠ w.heap.size + 1 → Same w2 P b' := fun b' hb' => by rw [← hPe]; exact put5_same _ _ _ _ _ hb'
        have hPz : BoxV P (w.heap.size + 1) (.of 24 0 ⟨#[]⟩ (some ⟨w2.heap.size, 0, none⟩) 2 0 [leaf 0 0 ⟨#[]⟩, leaf 0 0 ⟨#[]⟩]) → True := fun _ => trivial
        rw [← put5_of] at hPe
        have hPe' : ((((w2.setCell ⟨w.heap.size + 1, 0, none⟩ (.int .i64 24)).setCell ⟨w.heap.size + 1, 1, none⟩ (.int .u64 0)).setCell ⟨w.heap.size + 1, 2, none⟩ (.string ⟨#[]⟩)).setCell ⟨w.heap.size + 1, 3, none⟩ (.slice (some ⟨w2.heap.size, 0, none⟩) 2 2)).setCell ⟨w.heap.size + 1, 4, none⟩ (.int .i64 0) = P := hPe
        have HRFr2 := HRFr
        have HPE := hide hPe'
        have HPM := hide hPm
        clear hPe hPe' hPm hPz
        go_wp2
        have hq0 : ∀ q, q < 5 → P.cell? ⟨w.heap.size + 1, q, none⟩ = (words (.of 24 0 ⟨#[]⟩ (some ⟨w2.heap.size, 0, none⟩) 2 0 [leaf 0 0 ⟨#[]⟩, leaf 0 0 ⟨#[]⟩]))[q]? := fun q hq => by
          have := put5_cell (w := w2) (b := w.heap.size + 1) (o := 0) (y := .of 24 0 ⟨#[]⟩ (some ⟨w2.heap.size, 0, none⟩) 2 0 [leaf 0 0 ⟨#[]⟩, leaf 0 0 ⟨#[]⟩]) (t := 42) (m := 5) ⟨_, xz.below hb02 (by omega), rfl⟩ (by omega) q hq
          rw [← put5_of] at this
          simp only [Nat.zero_add] at this
          rw [← HPE.out]
          exact this
        rw [HPE.out]
        have hbf : Below w2.heap.size P (P.alloc (Obj.cells #[.int .i64 5, .int .u64 kind, .string ⟨#[]⟩, .slice none 0 0, .int .i64 0, .int .i64 21, .int .u64 0, .string ⟨#[]⟩, .slice (some ⟨w1.heap.size, 0, none⟩) m l.length, .int .i64 0] 42)) := bel1 (Below.refl _ _) (by omega) _
        have hbfw := bel1 hPb (by omega) (Obj.cells #[.int .i64 5, .int .u64 kind, .string ⟨#[]⟩, .slice none 0 0, .int .i64 0, .int .i64 21, .int .u64 0, .string ⟨#[]⟩, .slice (some ⟨w1.heap.size, 0, none⟩) m l.length, .int .i64 0] 42)
        have e0 : (P.alloc (Obj.cells #[.int .i64 5, .int .u64 kind, .string ⟨#[]⟩, .slice none 0 0, .int .i64 0, .int .i64 21, .int .u64 0, .string ⟨#[]⟩, .slice (some ⟨w1.heap.size, 0, none⟩) m l.length, .int .i64 0] 42)).heap[w2.heap.size]? = some (.cells #[.int .i64 5, .int .u64 kind, .string ⟨#[]⟩, .slice none 0 0, .int .i64 0, .int .i64 21, .int .u64 0, .string ⟨#[]⟩, .slice (some ⟨w1.heap.size, 0, none⟩) m l.length, .int .i64 0] 42 (0, 0)) := by
          rw [← hPs]
          exact World.alloc_heap_new _ _
        have e1 : RowF P w1.heap.size l.length (gOuts l ds l.length) := (HRFr2.out.below HB2.out (by omega)).same (HPM.out _ (by omega))
        generalize hQ : P.alloc (Obj.cells #[.int .i64 5, .int .u64 kind, .string ⟨#[]⟩, .slice none 0 0, .int .i64 0, .int .i64 21, .int .u64 0, .string ⟨#[]⟩, .slice (some ⟨w1.heap.size, 0, none⟩) m l.length, .int .i64 0] 42) = Q at hbf hbfw e0 ⊢
        have hQs : Q.heap.size = w2.heap.size + 1 := by rw [← hQ]; simp; omega
        have hcq : ∀ q, Q.cell? ⟨w.heap.size + 1, q, none⟩ = P.cell? ⟨w.heap.size + 1, q, none⟩ := fun q => hbf.cell (p := ⟨w.heap.size + 1, q, none⟩) (by show w.heap.size + 1 < _; omega)
        have j0 : Q.cell? ⟨w.heap.size + 1, 0, none⟩ = some (.int .i64 24) := (hcq 0).trans (hq0 0 (by omega))
        have j1 : Q.cell? ⟨w.heap.size + 1, 1, none⟩ = some (.int .u64 0) := (hcq 1).trans (hq0 1 (by omega))
        have j2 : Q.cell? ⟨w.heap.size + 1, 2, none⟩ = some (.string ⟨#[]⟩) := (hcq 2).trans (hq0 2 (by omega))
        have j3 : Q.cell? ⟨w.heap.size + 1, 3, none⟩ = some (.slice (some ⟨w2.heap.size, 0, none⟩) 2 2) := (hcq 3).trans (hq0 3 (by omega))
        have j4 : Q.cell? ⟨w.heap.size + 1, 4, none⟩ = some (.int .i64 0) := (hcq 4).trans (hq0 4 (by omega))
        refine bodyPost_ret (v := .agg #[.int .i64 24, .int .u64 0, .string ⟨#[]⟩, .slice (some ⟨w2.heap.size, 0, none⟩) 2 2, .int .i64 0]) (by simp [results, Tryz.results99, go_sem, j0, j1, j2, j3, j4]) rfl ⟨some ⟨w2.heap.size, 0, none⟩, some ⟨w1.heap.size, 0, none⟩, 2, l.length, rfl, ?_, hbfw⟩
        show LiesIn (fun q => q < n₀ ∨ (w.heap.size ≤ q ∧ q < Q.heap.size)) Q _
        rw [HM.out]
        exact laid_lies _ kind hk0 hk1 l ds HD.out hcc m (by omega) Q w2.heap.size w1.heap.size (.inr ⟨by omega, by omega⟩) (.inr ⟨by omega, by omega⟩) e0 (e1.below hbf (by omega)) (fun x hx => LiesIn.keep ((HLS.out x hx).keep hbfw hn) (fun _ _ _ => rfl) (fun _ h => .inl h))
def Fd.m (f : Fd) : Int × Bool × V := (f.ty, f.must, f.d)
def FieldsLike (n : Nat) (ms : List (Int × Bool × V)) (W : World) (e : Ending) (w' : World) : Prop := ∃ (a : Option Addr) (fs : List Fd), e = .returned (.tuple #[.slice a n n, .bool true]) ∧
  Hid ((fs.map Fd.m = ms ∧ fs.length = n) ∧ (0 < n → ∃ b, a = some ⟨b, 0, none⟩ ∧ W.heap.size ≤ b ∧ b < w'.heap.size ∧ FRow w' b fs)) ∧ Below W.heap.size W w'
theorem FieldsLike.post {n : Nat} {ms : List (Int × Bool × V)} {W w' : World} {e : Ending} (h : FieldsLike n ms W e w') : FieldsPost n (ms.map fun m => m.2.2) W e w' := by
  obtain ⟨a, fs, h1, h2, h3⟩ := h
  refine ⟨a, fs, h1, ⟨⟨?_, h2.out.1.2⟩, h2.out.2⟩, h3⟩
  rw [← h2.out.1.1, List.map_map]
  rfl
theorem put5_hp (w : World) (b o b' : Nat) (y : V) (h : b' ≠ b) : (put5 w b o y).heap[b']? = w.heap[b']? := by
  rw [← put5_eq, Below.heap_setCell _ _ _ _ (by exact h), Below.heap_setCell _ _ _ _ (by exact h), Below.heap_setCell _ _ _ _ (by exact h), Below.heap_setCell _ _ _ _ (by exact h), Below.heap_setCell _ _ _ _ (by exact h)]
theorem RowF.snoc {w : World} {b m i : Nat} {g : Nat → V} {t : TypeId} {y : V} (hk : Blk w b t m) (h : RowF w b i g) (hm : i * 5 + 5 ≤ m) (hy : g i = y) : RowF (put5 w b (i * 5) y) b (i + 1) g := by
  intro j hj q hq
  by_cases e : j = i
  · subst e
    rw [hy]
    exact put5_cell hk (by omega) q hq
  · rw [← h j (by omega) q hq]
    refine World.cell?_setCells_out b (words y) _ w _ (fun _ _ => ?_)
    simp only [words, List.length_cons, List.length_nil]
    omega
set_option maxRecDepth 100000 in
set_option maxHeartbeats 20000000 in
theorem packed_gen (kind : Int) (hk0 : 0 ≤ kind) (hk1 : kind ≤ 9223372036854775807) (l ys : List V) (ms : List (Int × Bool × V)) (hd : ms.length = l.length) (hy : ys.length = l.length) (b c : Nat) (h0 : 0 < l.length) (hc : l.length ≤ c) (hcc : l.length ≤ 1000) (w : World) (hlt : b < w.heap.size) (hr : Row w b 0 l)
    (hls : ∀ x ∈ ys, Lies w.heap.size w x) (hds : ∀ d ∈ ms.map (fun m => m.2.2), ∀ n₀ W, Lies n₀ W d)
    (hF : ∀ W, Below w.heap.size w W → Calls Tryz.prog 8 #[.int .i64 kind] W (FieldsLike l.length ms W))
    (hC : ∀ i (h1 : i < l.length) (h2 : i < ms.length) (h3 : i < ys.length), ∀ F : Fd, F.m = ms[i] → ∀ W, Below w.heap.size w W → Calls Tryz.prog 98 #[F.val, l[i].val] W fun e w' => e = VN ys[i] 0 ∧ Below W.heap.size W w')
    (hdp : ∀ a2 a3 c2 c3, mx ((V.of 24 0 ⟨#[]⟩ a2 c2 0 [leaf 5 kind ⟨#[]⟩, .of 21 0 ⟨#[]⟩ a3 c3 0 ((outs ys (ms.map fun m => m.2.2)).take (saidN ys (ms.map fun m => m.2.2) ys.length))]).all 1) ≤ 32) :
    Calls Tryz.prog 35 #[.agg #[.int .i64 kind, .slice (some ⟨b, 0, none⟩) l.length c]] w (fun e w' => ∃ v : V, e = VN v 0 ∧ Hid ((∃ a2 a3 c2 c3, v = .of 24 0 ⟨#[]⟩ a2 c2 0 [leaf 5 kind ⟨#[]⟩, .of 21 0 ⟨#[]⟩ a3 c3 0 ((outs ys (ms.map fun m => m.2.2)).take (saidN ys (ms.map fun m => m.2.2) ys.length))]) ∧ Lies w'.heap.size w' v) ∧ Below w.heap.size w w') := by
  obtain ⟨W0, hW0⟩ : ∃ W0, (w.alloc (Obj.cells #[.int .i64 kind, .slice (some ⟨b, 0, none⟩) l.length c] 33)).alloc (Obj.cells #[.int .i64 0, .int .u64 0, .string ⟨#[]⟩, .slice none 0 0, .int .i64 0] 42) = W0 := ⟨_, rfl⟩
  have hs0 : W0.heap.size = w.heap.size + 2 := by rw [← hW0]; simp
  have hb0 : Below w.heap.size w W0 := by rw [← hW0]; exact bel2 (Below.refl _ _) (Nat.le_refl _) _ _
  have xr : BoxR W0 w.heap.size kind (some ⟨b, 0, none⟩) l.length c := by rw [← hW0]; exact heap_past (World.alloc_heap_new _ _) _
  have xz : BoxV W0 (w.heap.size + 1) (.of 0 0 ⟨#[]⟩ none 0 0 []) := by
    rw [← hW0]
    unfold BoxV
    rw [V.k_of, V.n_of, V.s_of, V.a_of, V.l_of, V.c_of, V.e_of]
    exact heap_at1 _ _ _
  have HF := hide hF
  have HC := hide hC
  have HR := hide hr
  have HLS := hide hls
  have HDS := hide hds
  have HDP := hide hdp
  have HD := hide hd
  have HY := hide hy
  have HW0 := hide hW0
  clear hW0 hF hr hls hds hdp hd hy hC
  go_enter Tryz.func35, Tryz.ntmps35
  go_wp2_with fail
  rw [HW0.out]
  clear HW0
  refine (HF.out _ hb0).mono ?_
  rintro e1 w1 ⟨af, fs, rfl, HFS, hb1⟩
  have hs1 := hb1.size
  have hbw1 : Below w.heap.size w w1 := belOn hb0 (by omega) hb1
  obtain ⟨⟨hfd, hfl⟩, hff⟩ := HFS.out
  obtain ⟨bf, rfl, hbf1, hbf2, hfr⟩ := hff h0
  have HFR := hide hfr
  have HFD := hide hfd
  have HFL := hide hfl
  clear hfr hff hfd hfl HFS
  have hmk := run_makeV l.length l.length (Nat.le_refl _) (by omega)
  obtain ⟨r0, r1⟩ := (xr.below hb1 (by omega)).cells
  have hw0 : w.heap.size < w1.heap.size := by omega
  have hmx : Tryz.prog.follows .mixedOrders = true := by kernel_rfl
  go_wp2
  go_region
  · obtain ⟨W1, hW1⟩ : ∃ W1, ((w1.alloc (Obj.cells (madeCells zeroV (l.length * 5)) 42)).alloc (Obj.cells #[.int .i64 kind, .slice (some ⟨w1.heap.size, 0, none⟩) l.length l.length] 33)).drew = W1 := ⟨_, rfl⟩
    have hsW1 : W1.heap.size = w1.heap.size + 2 := by rw [← hW1]; show (World.alloc (World.alloc w1 _) _).heap.size = _; simp
    have hb11 : Below w1.heap.size w1 W1 := by rw [← hW1]; exact (bel2 (Below.refl _ _) (Nat.le_refl _) _ _).drew
    have hk1' : Blk W1 w1.heap.size 42 (l.length * 5) := by
      have : Blk (w1.alloc (Obj.cells (madeCells zeroV (l.length * 5)) 42)) w1.heap.size 42 (l.length * 5) := Blk.made _ _ _ _
      rw [← hW1]
      exact this.below (bel1 (Below.refl _ _) (Nat.le_refl _) _).drew (by simp)
    have hxf1 : BoxR W1 (w1.heap.size + 1) kind (some ⟨w1.heap.size, 0, none⟩) l.length l.length := by rw [← hW1]; exact heap_at1 _ _ _
    have hfr1 : FRow W1 bf fs := HFR.out.below hb11 hbf2
    have hb01 : Below W0.heap.size W0 W1 := belOn hb1 hs1 hb11
    rw [hW1]
    have HFR1 := hide hfr1
    have HK1 := hide hk1'
    have HXF1 := hide hxf1
    clear hW1 hmk hfr1 hk1' hxf1 r0 r1
    go_wp2
    go_loopw [35] (fun u wr => ∃ (i : Nat), u = .int .i64 i ∧ i ≤ l.length ∧ Below W0.heap.size W0 wr ∧ W1.heap.size ≤ wr.heap.size ∧ Hid (FRow wr bf fs) ∧ Hid (BoxR wr (w1.heap.size + 1) kind (some ⟨w1.heap.size, 0, none⟩) l.length l.length) ∧ Hid (Blk wr w1.heap.size 42 (l.length * 5)) ∧ Hid (RowF wr w1.heap.size i (fun j => (ys[j]?).getD (leaf 0 0 ⟨#[]⟩)))) (fun u _ => l.length + 1 - (intOf u).toNat)
    case atStart => exact ⟨0, rfl, Nat.zero_le _, hb01, Nat.le_refl _, HFR1, HXF1, HK1, fun j hj => absurd hj (by omega)⟩
    case round =>
      obtain ⟨i, rfl, hi, hb, hsz, HFRr, HXFr, HKr, HRFr⟩ := hrel
      have hsb := hb.size
      have hbw : Below w.heap.size w wr := belOn hb0 (by omega) hb
      by_cases hil : i < l.length
      · have hfi : i < fs.length := by rw [HFL.out]; exact hil
        have hdi : i < ms.length := by rw [HD.out]; exact hil
        have hyi : i < ys.length := by rw [HY.out]; exact hil
        have hF0 : (fs[i]'hfi).m = ms[i]'hdi := by
          have h1 : (fs.map Fd.m)[i]? = ms[i]? := by rw [HFD.out]
          rw [List.getElem?_map, List.getElem?_eq_getElem hfi, List.getElem?_eq_getElem hdi] at h1
          exact Option.some.inj h1
        obtain ⟨c0, c1, c2, c3, c4, c5, c6, c7, c8⟩ := HFRr.out.cells i hfi
        generalize (fs[i]'hfi) = F at c0 c1 c2 c3 c4 c5 c6 c7 c8 hF0
        obtain ⟨WR, hWR⟩ : ∃ WR, wr.alloc (.cells F.cs 66) = WR := ⟨_, rfl⟩
        have hsR : WR.heap.size = wr.heap.size + 1 := by rw [← hWR]; simp
        have hbR : Below w.heap.size w WR := by rw [← hWR]; exact bel1 hbw (by omega) _
        have hbR0 : Below W0.heap.size W0 WR := by rw [← hWR]; exact bel1 hb (by omega) _
        have hbRr : Below wr.heap.size wr WR := by rw [← hWR]; exact bel1 (Below.refl _ _) (Nat.le_refl _) _
        have xF : BoxF WR wr.heap.size F := by rw [← hWR]; exact World.alloc_heap_new _ _
        have HS : Hid (∀ W', Below WR.heap.size WR W' → (fun W' => W'.cell? ⟨w.heap.size, 1, none⟩ = some (.slice (some ⟨b, 0, none⟩) l.length c) ∧ W'.cell? ⟨(w1.heap.size + 1), 1, none⟩ = some (.slice (some ⟨w1.heap.size, 0, none⟩) l.length l.length) ∧ W'.cell? ⟨b, i * 5, none⟩ = some (.int .i64 l[i].k) ∧ W'.cell? ⟨b, i * 5 + 1, none⟩ = some (.int .u64 l[i].n) ∧ W'.cell? ⟨b, i * 5 + 2, none⟩ = some (.string l[i].s) ∧ W'.cell? ⟨b, i * 5 + 3, none⟩ = some (.slice l[i].a l[i].l.length l[i].c) ∧ W'.cell? ⟨b, i * 5 + 4, none⟩ = some (.int .i64 l[i].e) ∧ W'.cell? ⟨wr.heap.size, 0, none⟩ = some (.string F.name) ∧ W'.cell? ⟨wr.heap.size, 1, none⟩ = some (.int .i64 F.ty) ∧ W'.cell? ⟨wr.heap.size, 2, none⟩ = some (.slice F.ka F.kl F.kc) ∧ W'.cell? ⟨wr.heap.size, 3, none⟩ = some (.bool F.must) ∧ W'.cell? ⟨wr.heap.size, 4, none⟩ = some (.int .i64 F.d.k) ∧ W'.cell? ⟨wr.heap.size, 5, none⟩ = some (.int .u64 F.d.n) ∧ W'.cell? ⟨wr.heap.size, 6, none⟩ = some (.string F.d.s) ∧ W'.cell? ⟨wr.heap.size, 7, none⟩ = some (.slice F.d.a F.d.l.length F.d.c) ∧ W'.cell? ⟨wr.heap.size, 8, none⟩ = some (.int .i64 F.d.e)) W') := by
          intro W' hb'
          have hbW := belOn hbR (by omega) hb'
          have hbW0 := belOn hbR0 (by omega) hb'
          have hbWr := belOn hbRr (by omega) hb'
          obtain ⟨q0, q1, q2, q3, q4⟩ := (HR.out.below hbW hlt) i hil
          simp only [Nat.zero_add] at q0 q1 q2 q3 q4
          obtain ⟨g0, g1, g2, g3, g4, g5, g6, g7, g8⟩ := (xF.below hb' (by omega)).cells
          exact ⟨(xr.below hbW0 (by omega)).cells.2, (HXFr.out.below hbWr (by omega)).cells.2, q0, q1, q2, q3, q4, g0, g1, g2, g3, g4, g5, g6, g7, g8⟩
        have HSP : Hid (∀ W', Below WR.heap.size WR W' → ∀ y, (fun W' => W'.cell? ⟨w.heap.size, 1, none⟩ = some (.slice (some ⟨b, 0, none⟩) l.length c) ∧ W'.cell? ⟨(w1.heap.size + 1), 1, none⟩ = some (.slice (some ⟨w1.heap.size, 0, none⟩) l.length l.length) ∧ W'.cell? ⟨b, i * 5, none⟩ = some (.int .i64 l[i].k) ∧ W'.cell? ⟨b, i * 5 + 1, none⟩ = some (.int .u64 l[i].n) ∧ W'.cell? ⟨b, i * 5 + 2, none⟩ = some (.string l[i].s) ∧ W'.cell? ⟨b, i * 5 + 3, none⟩ = some (.slice l[i].a l[i].l.length l[i].c) ∧ W'.cell? ⟨b, i * 5 + 4, none⟩ = some (.int .i64 l[i].e) ∧ W'.cell? ⟨wr.heap.size, 0, none⟩ = some (.string F.name) ∧ W'.cell? ⟨wr.heap.size, 1, none⟩ = some (.int .i64 F.ty) ∧ W'.cell? ⟨wr.heap.size, 2, none⟩ = some (.slice F.ka F.kl F.kc) ∧ W'.cell? ⟨wr.heap.size, 3, none⟩ = some (.bool F.must) ∧ W'.cell? ⟨wr.heap.size, 4, none⟩ = some (.int .i64 F.d.k) ∧ W'.cell? ⟨wr.heap.size, 5, none⟩ = some (.int .u64 F.d.n) ∧ W'.cell? ⟨wr.heap.size, 6, none⟩ = some (.string F.d.s) ∧ W'.cell? ⟨wr.heap.size, 7, none⟩ = some (.slice F.d.a F.d.l.length F.d.c) ∧ W'.cell? ⟨wr.heap.size, 8, none⟩ = some (.int .i64 F.d.e)) (put5 W' w1.heap.size (i * 5) y)) := by
          intro W' hb' y
          have h := HS.out W' hb'
          have e : ∀ b' o', b' ≠ w1.heap.size → (put5 W' w1.heap.size (i * 5) y).cell? ⟨b', o', none⟩ = W'.cell? ⟨b', o', none⟩ := fun b' o' hne => put5_same _ _ _ _ _ hne o'
          simp only [e w.heap.size _ (by omega), e (w1.heap.size + 1) _ (by omega), e b _ (by omega), e wr.heap.size _ (by omega)]
          exact h
        simp only [← put5_eq] at HSP
        have HB0 : Hid (Below WR.heap.size WR WR.drew) := (Below.refl _ _).drew
        have he := HC.out i hil hdi hyi F hF0 WR.drew hbR.drew
        rw [Fd.val_eq, V.val_eq] at he
        unfold VN at he
        have HE := hide he
        have HWR := hide hWR
        unfold Fd.cs at HWR
        have hbfr : bf < wr.heap.size := by omega
        have HZ : Hid (∀ W', Below WR.heap.size WR W' → Blk W' w1.heap.size 42 (l.length * 5)) := fun W' hb' => (HKr.out.below hbRr (by omega)).below hb' (by omega)
        clear he hWR hF0
        go_wp2_with fail
        rw [HWR.out]
        go_region_held (fun W' => W'.cell? ⟨w.heap.size, 1, none⟩ = some (.slice (some ⟨b, 0, none⟩) l.length c) ∧ W'.cell? ⟨(w1.heap.size + 1), 1, none⟩ = some (.slice (some ⟨w1.heap.size, 0, none⟩) l.length l.length) ∧ W'.cell? ⟨b, i * 5, none⟩ = some (.int .i64 l[i].k) ∧ W'.cell? ⟨b, i * 5 + 1, none⟩ = some (.int .u64 l[i].n) ∧ W'.cell? ⟨b, i * 5 + 2, none⟩ = some (.string l[i].s) ∧ W'.cell? ⟨b, i * 5 + 3, none⟩ = some (.slice l[i].a l[i].l.length l[i].c) ∧ W'.cell? ⟨b, i * 5 + 4, none⟩ = some (.int .i64 l[i].e) ∧ W'.cell? ⟨wr.heap.size, 0, none⟩ = some (.string F.name) ∧ W'.cell? ⟨wr.heap.size, 1, none⟩ = some (.int .i64 F.ty) ∧ W'.cell? ⟨wr.heap.size, 2, none⟩ = some (.slice F.ka F.kl F.kc) ∧ W'.cell? ⟨wr.heap.size, 3, none⟩ = some (.bool F.must) ∧ W'.cell? ⟨wr.heap.size, 4, none⟩ = some (.int .i64 F.d.k) ∧ W'.cell? ⟨wr.heap.size, 5, none⟩ = some (.int .u64 F.d.n) ∧ W'.cell? ⟨wr.heap.size, 6, none⟩ = some (.string F.d.s) ∧ W'.cell? ⟨wr.heap.size, 7, none⟩ = some (.slice F.d.a F.d.l.length F.d.c) ∧ W'.cell? ⟨wr.heap.size, 8, none⟩ = some (.int .i64 F.d.e)) (first | with_reducible exact HS.out _ HB0.out | with_reducible exact HS.out _ HB2.out | with_reducible exact HSP.out _ HB2.out _) ((go_at_call 98; refine Calls.mono HE.out ?_; rintro e2 w2 ⟨rfl, hb2⟩; have HB2 : Hid (Below WR.heap.size WR w2) := belOn HB0.out HB0.out.size hb2; clear hb2; have hs2 := HB2.out.size; have hk2 := HZ.out _ HB2.out; obtain ⟨z0, y0⟩ := hk2.some (i * 5) (by omega); obtain ⟨z1, y1⟩ := hk2.some (i * 5 + 1) (by omega); obtain ⟨z2, y2⟩ := hk2.some (i * 5 + 2) (by omega); obtain ⟨z3, y3⟩ := hk2.some (i * 5 + 3) (by omega); obtain ⟨z4, y4⟩ := hk2.some (i * 5 + 4) (by omega); have fz := hk2.free; have hlw : w1.heap.size < w2.heap.size := (by omega); have HK2 := hide hk2; clear hk2))
        all_goals
          have hbr2 : Below wr.heap.size wr w2 := belOn hbRr (by omega) HB2.out
          have hb02 : Below W0.heap.size W0 w2 := belOn hbR0 (by omega) HB2.out
          go_wp2
          go_roundw
          case rel =>
            have hpb := put5_below (y := ys[i]) (o := i * 5) (b := w1.heap.size) hb02 (by omega)
            have hpk := put5_blk HK2.out (i * 5) ys[i]
            have hpr := RowF.snoc (y := ys[i]) (g := fun j => (ys[j]?).getD (leaf 0 0 ⟨#[]⟩)) HK2.out (HRFr.out.below hbr2 (by omega)) (by omega) (by simp [hyi])
            have hpf : FRow (put5 w2 w1.heap.size (i * 5) ys[i]) bf fs := fun q hq j hj => (put5_same _ _ _ _ _ (by omega) _).trans ((HFRr.out.below hbr2 hbfr) q hq j hj)
            have hpx : BoxR (put5 w2 w1.heap.size (i * 5) ys[i]) (w1.heap.size + 1) kind (some ⟨w1.heap.size, 0, none⟩) l.length l.length := (put5_hp _ _ _ _ _ (by omega)).trans (HXFr.out.below hbr2 (by omega))
            have hps := put5_size w2 w1.heap.size (i * 5) ys[i]
            rw [← put5_eq] at hpb hpk hpr hpf hpx hps
            exact ⟨i + 1, by go_num, by omega, hpb, by omega, hpf, hpx, hpk, hpr⟩
          case measure => simp [intOf]; omega
      · have hie : i = l.length := by omega
        subst hie
        have hrow : Row wr w1.heap.size 0 ys := HRFr.out.row ys (by rw [HY.out]; exact Nat.le_refl _) (fun j hj => by simp [hj])
        have hlaid := laid_gen w.heap.size kind hk0 hk1 ys (ms.map fun m => m.2.2) (by rw [List.length_map, HD.out, HY.out]) w1.heap.size l.length (by rw [HY.out]; exact h0) (by rw [HY.out]; exact Nat.le_refl _) (by rw [HY.out]; exact hcc) wr hbw.size (by omega) hrow (fun x hx => (HLS.out x hx).keep hbw (Nat.le_refl _)) (fun d hd W => HDS.out d hd _ W) (fun W hW => by rw [HY.out]; exact (HF.out W (belOn hbw hbw.size hW)).mono (fun e w' h => h.post))
        rw [HY.out] at hlaid
        have HLD := hide hlaid
        obtain ⟨x0, x1⟩ := HXFr.out.cells
        have hfw : (w1.heap.size + 1) < wr.heap.size := by omega
        clear hlaid hrow
        go_wp2_with fail
        refine HLD.out.mono ?_
        rintro e3 w3 ⟨a2, a3, c2, c3, rfl, HLV, hb3⟩
        have hs3 := hb3.size
        have hb03 : Below W0.heap.size W0 w3 := belOn hb hsb hb3
        have hbw3 : Below w.heap.size w w3 := belOn hb0 (by omega) hb03
        have hdp1 := HDP.out a2 a3 c2 c3
        generalize hv : V.of 24 0 ⟨#[]⟩ a2 c2 0 [leaf 5 kind ⟨#[]⟩, .of 21 0 ⟨#[]⟩ a3 c3 0 ((outs ys (ms.map fun m => m.2.2)).take (saidN ys (ms.map fun m => m.2.2) ys.length))] = v at HLV hdp1
        have hvv : v.val = .agg #[.int .i64 24, .int .u64 0, .string ⟨#[]⟩, .slice a2 2 c2, .int .i64 0] := by rw [← hv, V.val_of]; rfl
        obtain ⟨W3, hW3⟩ : ∃ W3, w3.alloc (Obj.cells #[.int .i64 24, .int .u64 0, .string ⟨#[]⟩, .slice a2 2 c2, .int .i64 0] 42) = W3 := ⟨_, rfl⟩
        have hsW3 : W3.heap.size = w3.heap.size + 1 := by rw [← hW3]; simp
        have hb33 : Below w3.heap.size w3 W3 := by rw [← hW3]; exact bel1 (Below.refl _ _) (Nat.le_refl _) _
        have hx3 : W3.heap[w3.heap.size]? = some (.cells #[.int .i64 24, .int .u64 0, .string ⟨#[]⟩, .slice a2 2 c2, .int .i64 0] 42 (0, 0)) := by rw [← hW3]; exact World.alloc_heap_new _ _
        have hdep := depth_any v w3.heap.size W3 (by omega) (LiesIn.keep HLV.out (fun b hq o => hb33.cell (p := ⟨b, o, none⟩) (by show b < _; omega)) (fun b hq => by omega))
        rw [hvv] at hdep
        generalize mx (v.all 1) = dpt at hdep hdp1
        have HDE := hide hdep
        have HW3 := hide hW3
        have HV := hide hv
        clear hdep hW3 hv
        go_wp2_with fail
        rw [HW3.out]
        refine HDE.out.mono ?_
        rintro e4 w4 ⟨rfl, hb4⟩
        have hs4 := hb4.size
        have hb34 : Below w3.heap.size w3 w4 := hb33.trans (hb4.mono (by omega))
        have hb04 : Below W0.heap.size W0 w4 := belOn hb03 (by omega) hb34
        have hbw4 : Below w.heap.size w w4 := belOn hb0 (by omega) hb04
        have xz1 := xz.below hb04 (by omega)
        obtain ⟨z0, z1, z2, z3, z4⟩ := xz1.cells
        have fz := (show Blk w4 (w.heap.size + 1) 42 5 from ⟨_, xz1, rfl⟩).free
        have hx4 := (hb4.block w3.heap.size (by omega)).trans hx3
        have o0 : w4.cell? ⟨w3.heap.size, 0, none⟩ = some (.int .i64 24) := by unfold World.cell?; simp only [hx4]; rfl
        have o1 : w4.cell? ⟨w3.heap.size, 1, none⟩ = some (.int .u64 0) := by unfold World.cell?; simp only [hx4]; rfl
        have o2 : w4.cell? ⟨w3.heap.size, 2, none⟩ = some (.string ⟨#[]⟩) := by unfold World.cell?; simp only [hx4]; rfl
        have o3 : w4.cell? ⟨w3.heap.size, 3, none⟩ = some (.slice a2 2 c2) := by unfold World.cell?; simp only [hx4]; rfl
        have o4 : w4.cell? ⟨w3.heap.size, 4, none⟩ = some (.int .i64 0) := by unfold World.cell?; simp only [hx4]; rfl
        have hgt : ¬ (32 < dpt) := by omega
        have hz5 : w.heap.size + 1 < w4.heap.size := by omega
        have hz6 : w3.heap.size < w4.heap.size := by omega
        clear xz1 hx4 hx3
        obtain ⟨P, hPe⟩ : ∃ P, put5 w4 (w.heap.size + 1) 0 (.of 24 0 ⟨#[]⟩ a2 c2 0 [leaf 0 0 ⟨#[]⟩, leaf 0 0 ⟨#[]⟩]) = P := ⟨_, rfl⟩
        have hPs : P.heap.size = w4.heap.size := by rw [← hPe]; exact put5_size _ _ _ _
        have hPb : Below w.heap.size w P := by rw [← hPe]; exact put5_below hbw4 (by omega)
        have hPm : ∀ b', b' ≠ w.heap.size + 1 → Same w4 P b' := fun b' hb' => by rw [← hPe]; exact put5_same _ _ _ _ _ hb'
        have hq0 : ∀ q, q < 5 → P.cell? ⟨w.heap.size + 1, q, none⟩ = (words (.of 24 0 ⟨#[]⟩ a2 c2 0 [leaf 0 0 ⟨#[]⟩, leaf 0 0 ⟨#[]⟩]))[q]? := fun q hq => by
          have := put5_cell (w := w4) (b := w.heap.size + 1) (o := 0) (y := .of 24 0 ⟨#[]⟩ a2 c2 0 [leaf 0 0 ⟨#[]⟩, leaf 0 0 ⟨#[]⟩]) (t := 42) (m := 5) ⟨_, xz.below hb04 (by omega), rfl⟩ (by omega) q hq
          rw [Nat.zero_add] at this
          rw [← hPe]
          exact this
        rw [← put5_of] at hPe
        have hPe' : ((((w4.setCell ⟨w.heap.size + 1, 0, none⟩ (.int .i64 24)).setCell ⟨w.heap.size + 1, 1, none⟩ (.int .u64 0)).setCell ⟨w.heap.size + 1, 2, none⟩ (.string ⟨#[]⟩)).setCell ⟨w.heap.size + 1, 3, none⟩ (.slice a2 2 c2)).setCell ⟨w.heap.size + 1, 4, none⟩ (.int .i64 0) = P := hPe
        have HPE := hide hPe'
        have HPM := hide hPm
        have HQ0 := hide hq0
        clear hPe hPe' hPm hq0
        go_wp2
        rw [HPE.out]
        have j0 : P.cell? ⟨w.heap.size + 1, 0, none⟩ = some (.int .i64 24) := HQ0.out 0 (by omega)
        have j1 : P.cell? ⟨w.heap.size + 1, 1, none⟩ = some (.int .u64 0) := HQ0.out 1 (by omega)
        have j2 : P.cell? ⟨w.heap.size + 1, 2, none⟩ = some (.string ⟨#[]⟩) := HQ0.out 2 (by omega)
        have j3 : P.cell? ⟨w.heap.size + 1, 3, none⟩ = some (.slice a2 2 c2) := HQ0.out 3 (by omega)
        have j4 : P.cell? ⟨w.heap.size + 1, 4, none⟩ = some (.int .i64 0) := HQ0.out 4 (by omega)
        refine bodyPost_ret (v := .tuple #[.agg #[.int .i64 24, .int .u64 0, .string ⟨#[]⟩, .slice a2 2 c2, .int .i64 0], .int .i64 0]) (by simp [results, Tryz.results35, go_sem, j0, j1, j2, j3, j4]) rfl ⟨v, ?_, ⟨⟨a2, a3, c2, c3, HV.out.symm⟩, ?_⟩, hPb⟩
        · show _ = Ending.returned (.tuple #[v.val, .int .i64 0])
          rw [hvv]
        · exact LiesIn.keep HLV.out (fun b' hq o => (HPM.out b' (by omega) o).trans (hb34.cell (p := ⟨b', o, none⟩) (by show b' < _; omega))) (fun b' hq => by omega)
  · obtain ⟨W1, hW1⟩ : ∃ W1, ((w1.alloc (Obj.cells #[.int .i64 kind, .slice (some ⟨w1.heap.size + 1, 0, none⟩) l.length l.length] 33)).alloc (Obj.cells (madeCells zeroV (l.length * 5)) 42)).drew = W1 := ⟨_, rfl⟩
    have hsW1 : W1.heap.size = w1.heap.size + 2 := by rw [← hW1]; show (World.alloc (World.alloc w1 _) _).heap.size = _; simp
    have hb11 : Below w1.heap.size w1 W1 := by rw [← hW1]; exact (bel2 (Below.refl _ _) (Nat.le_refl _) _ _).drew
    have hk1' : Blk W1 (w1.heap.size + 1) 42 (l.length * 5) := by
      have : Blk ((w1.alloc (Obj.cells #[.int .i64 kind, .slice (some ⟨w1.heap.size + 1, 0, none⟩) l.length l.length] 33)).alloc (Obj.cells (madeCells zeroV (l.length * 5)) 42)) (w1.alloc (Obj.cells #[.int .i64 kind, .slice (some ⟨w1.heap.size + 1, 0, none⟩) l.length l.length] 33)).heap.size 42 (l.length * 5) := Blk.made _ _ _ _
      rw [← hW1]
      rw [World.size_alloc] at this
      exact this
    have hxf1 : BoxR W1 w1.heap.size kind (some ⟨w1.heap.size + 1, 0, none⟩) l.length l.length := by rw [← hW1]; exact heap_past (World.alloc_heap_new _ _) _
    have hfr1 : FRow W1 bf fs := HFR.out.below hb11 hbf2
    have hb01 : Below W0.heap.size W0 W1 := belOn hb1 hs1 hb11
    rw [hW1]
    have HFR1 := hide hfr1
    have HK1 := hide hk1'
    have HXF1 := hide hxf1
    clear hW1 hmk hfr1 hk1' hxf1 r0 r1
    go_wp2
    go_loopw [35] (fun u wr => ∃ (i : Nat), u = .int .i64 i ∧ i ≤ l.length ∧ Below W0.heap.size W0 wr ∧ W1.heap.size ≤ wr.heap.size ∧ Hid (FRow wr bf fs) ∧ Hid (BoxR wr w1.heap.size kind (some ⟨(w1.heap.size + 1), 0, none⟩) l.length l.length) ∧ Hid (Blk wr (w1.heap.size + 1) 42 (l.length * 5)) ∧ Hid (RowF wr (w1.heap.size + 1) i (fun j => (ys[j]?).getD (leaf 0 0 ⟨#[]⟩)))) (fun u _ => l.length + 1 - (intOf u).toNat)
    case atStart => exact ⟨0, rfl, Nat.zero_le _, hb01, Nat.le_refl _, HFR1, HXF1, HK1, fun j hj => absurd hj (by omega)⟩
    case round =>
      obtain ⟨i, rfl, hi, hb, hsz, HFRr, HXFr, HKr, HRFr⟩ := hrel
      have hsb := hb.size
      have hbw : Below w.heap.size w wr := belOn hb0 (by omega) hb
      by_cases hil : i < l.length
      · have hfi : i < fs.length := by rw [HFL.out]; exact hil
        have hdi : i < ms.length := by rw [HD.out]; exact hil
        have hyi : i < ys.length := by rw [HY.out]; exact hil
        have hF0 : (fs[i]'hfi).m = ms[i]'hdi := by
          have h1 : (fs.map Fd.m)[i]? = ms[i]? := by rw [HFD.out]
          rw [List.getElem?_map, List.getElem?_eq_getElem hfi, List.getElem?_eq_getElem hdi] at h1
          exact Option.some.inj h1
        obtain ⟨c0, c1, c2, c3, c4, c5, c6, c7, c8⟩ := HFRr.out.cells i hfi
        generalize (fs[i]'hfi) = F at c0 c1 c2 c3 c4 c5 c6 c7 c8 hF0
        obtain ⟨WR, hWR⟩ : ∃ WR, wr.alloc (.cells F.cs 66) = WR := ⟨_, rfl⟩
        have hsR : WR.heap.size = wr.heap.size + 1 := by rw [← hWR]; simp
        have hbR : Below w.heap.size w WR := by rw [← hWR]; exact bel1 hbw (by omega) _
        have hbR0 : Below W0.heap.size W0 WR := by rw [← hWR]; exact bel1 hb (by omega) _
        have hbRr : Below wr.heap.size wr WR := by rw [← hWR]; exact bel1 (Below.refl _ _) (Nat.le_refl _) _
        have xF : BoxF WR wr.heap.size F := by rw [← hWR]; exact World.alloc_heap_new _ _
        have HS : Hid (∀ W', Below WR.heap.size WR W' → (fun W' => W'.cell? ⟨w.heap.size, 1, none⟩ = some (.slice (some ⟨b, 0, none⟩) l.length c) ∧ W'.cell? ⟨w1.heap.size, 1, none⟩ = some (.slice (some ⟨(w1.heap.size + 1), 0, none⟩) l.length l.length) ∧ W'.cell? ⟨b, i * 5, none⟩ = some (.int .i64 l[i].k) ∧ W'.cell? ⟨b, i * 5 + 1, none⟩ = some (.int .u64 l[i].n) ∧ W'.cell? ⟨b, i * 5 + 2, none⟩ = some (.string l[i].s) ∧ W'.cell? ⟨b, i * 5 + 3, none⟩ = some (.slice l[i].a l[i].l.length l[i].c) ∧ W'.cell? ⟨b, i * 5 + 4, none⟩ = some (.int .i64 l[i].e) ∧ W'.cell? ⟨wr.heap.size, 0, none⟩ = some (.string F.name) ∧ W'.cell? ⟨wr.heap.size, 1, none⟩ = some (.int .i64 F.ty) ∧ W'.cell? ⟨wr.heap.size, 2, none⟩ = some (.slice F.ka F.kl F.kc) ∧ W'.cell? ⟨wr.heap.size, 3, none⟩ = some (.bool F.must) ∧ W'.cell? ⟨wr.heap.size, 4, none⟩ = some (.int .i64 F.d.k) ∧ W'.cell? ⟨wr.heap.size, 5, none⟩ = some (.int .u64 F.d.n) ∧ W'.cell? ⟨wr.heap.size, 6, none⟩ = some (.string F.d.s) ∧ W'.cell? ⟨wr.heap.size, 7, none⟩ = some (.slice F.d.a F.d.l.length F.d.c) ∧ W'.cell? ⟨wr.heap.size, 8, none⟩ = some (.int .i64 F.d.e)) W') := by
          intro W' hb'
          have hbW := belOn hbR (by omega) hb'
          have hbW0 := belOn hbR0 (by omega) hb'
          have hbWr := belOn hbRr (by omega) hb'
          obtain ⟨q0, q1, q2, q3, q4⟩ := (HR.out.below hbW hlt) i hil
          simp only [Nat.zero_add] at q0 q1 q2 q3 q4
          obtain ⟨g0, g1, g2, g3, g4, g5, g6, g7, g8⟩ := (xF.below hb' (by omega)).cells
          exact ⟨(xr.below hbW0 (by omega)).cells.2, (HXFr.out.below hbWr (by omega)).cells.2, q0, q1, q2, q3, q4, g0, g1, g2, g3, g4, g5, g6, g7, g8⟩
        have HSP : Hid (∀ W', Below WR.heap.size WR W' → ∀ y, (fun W' => W'.cell? ⟨w.heap.size, 1, none⟩ = some (.slice (some ⟨b, 0, none⟩) l.length c) ∧ W'.cell? ⟨w1.heap.size, 1, none⟩ = some (.slice (some ⟨(w1.heap.size + 1), 0, none⟩) l.length l.length) ∧ W'.cell? ⟨b, i * 5, none⟩ = some (.int .i64 l[i].k) ∧ W'.cell? ⟨b, i * 5 + 1, none⟩ = some (.int .u64 l[i].n) ∧ W'.cell? ⟨b, i * 5 + 2, none⟩ = some (.string l[i].s) ∧ W'.cell? ⟨b, i * 5 + 3, none⟩ = some (.slice l[i].a l[i].l.length l[i].c) ∧ W'.cell? ⟨b, i * 5 + 4, none⟩ = some (.int .i64 l[i].e) ∧ W'.cell? ⟨wr.heap.size, 0, none⟩ = some (.string F.name) ∧ W'.cell? ⟨wr.heap.size, 1, none⟩ = some (.int .i64 F.ty) ∧ W'.cell? ⟨wr.heap.size, 2, none⟩ = some (.slice F.ka F.kl F.kc) ∧ W'.cell? ⟨wr.heap.size, 3, none⟩ = some (.bool F.must) ∧ W'.cell? ⟨wr.heap.size, 4, none⟩ = some (.int .i64 F.d.k) ∧ W'.cell? ⟨wr.heap.size, 5, none⟩ = some (.int .u64 F.d.n) ∧ W'.cell? ⟨wr.heap.size, 6, none⟩ = some (.string F.d.s) ∧ W'.cell? ⟨wr.heap.size, 7, none⟩ = some (.slice F.d.a F.d.l.length F.d.c) ∧ W'.cell? ⟨wr.heap.size, 8, none⟩ = some (.int .i64 F.d.e)) (put5 W' (w1.heap.size + 1) (i * 5) y)) := by
          intro W' hb' y
          have h := HS.out W' hb'
          have e : ∀ b' o', b' ≠ (w1.heap.size + 1) → (put5 W' (w1.heap.size + 1) (i * 5) y).cell? ⟨b', o', none⟩ = W'.cell? ⟨b', o', none⟩ := fun b' o' hne => put5_same _ _ _ _ _ hne o'
          simp only [e w.heap.size _ (by omega), e w1.heap.size _ (by omega), e b _ (by omega), e wr.heap.size _ (by omega)]
          exact h
        simp only [← put5_eq] at HSP
        have HB0 : Hid (Below WR.heap.size WR WR.drew) := (Below.refl _ _).drew
        have he := HC.out i hil hdi hyi F hF0 WR.drew hbR.drew
        rw [Fd.val_eq, V.val_eq] at he
        unfold VN at he
        have HE := hide he
        have HWR := hide hWR
        unfold Fd.cs at HWR
        have hbfr : bf < wr.heap.size := by omega
        have HZ : Hid (∀ W', Below WR.heap.size WR W' → Blk W' (w1.heap.size + 1) 42 (l.length * 5)) := fun W' hb' => (HKr.out.below hbRr (by omega)).below hb' (by omega)
        clear he hWR hF0
        go_wp2_with fail
        rw [HWR.out]
        go_region_held (fun W' => W'.cell? ⟨w.heap.size, 1, none⟩ = some (.slice (some ⟨b, 0, none⟩) l.length c) ∧ W'.cell? ⟨w1.heap.size, 1, none⟩ = some (.slice (some ⟨(w1.heap.size + 1), 0, none⟩) l.length l.length) ∧ W'.cell? ⟨b, i * 5, none⟩ = some (.int .i64 l[i].k) ∧ W'.cell? ⟨b, i * 5 + 1, none⟩ = some (.int .u64 l[i].n) ∧ W'.cell? ⟨b, i * 5 + 2, none⟩ = some (.string l[i].s) ∧ W'.cell? ⟨b, i * 5 + 3, none⟩ = some (.slice l[i].a l[i].l.length l[i].c) ∧ W'.cell? ⟨b, i * 5 + 4, none⟩ = some (.int .i64 l[i].e) ∧ W'.cell? ⟨wr.heap.size, 0, none⟩ = some (.string F.name) ∧ W'.cell? ⟨wr.heap.size, 1, none⟩ = some (.int .i64 F.ty) ∧ W'.cell? ⟨wr.heap.size, 2, none⟩ = some (.slice F.ka F.kl F.kc) ∧ W'.cell? ⟨wr.heap.size, 3, none⟩ = some (.bool F.must) ∧ W'.cell? ⟨wr.heap.size, 4, none⟩ = some (.int .i64 F.d.k) ∧ W'.cell? ⟨wr.heap.size, 5, none⟩ = some (.int .u64 F.d.n) ∧ W'.cell? ⟨wr.heap.size, 6, none⟩ = some (.string F.d.s) ∧ W'.cell? ⟨wr.heap.size, 7, none⟩ = some (.slice F.d.a F.d.l.length F.d.c) ∧ W'.cell? ⟨wr.heap.size, 8, none⟩ = some (.int .i64 F.d.e)) (first | with_reducible exact HS.out _ HB0.out | with_reducible exact HS.out _ HB2.out | with_reducible exact HSP.out _ HB2.out _) ((go_at_call 98; refine Calls.mono HE.out ?_; rintro e2 w2 ⟨rfl, hb2⟩; have HB2 : Hid (Below WR.heap.size WR w2) := belOn HB0.out HB0.out.size hb2; clear hb2; have hs2 := HB2.out.size; have hk2 := HZ.out _ HB2.out; obtain ⟨z0, y0⟩ := hk2.some (i * 5) (by omega); obtain ⟨z1, y1⟩ := hk2.some (i * 5 + 1) (by omega); obtain ⟨z2, y2⟩ := hk2.some (i * 5 + 2) (by omega); obtain ⟨z3, y3⟩ := hk2.some (i * 5 + 3) (by omega); obtain ⟨z4, y4⟩ := hk2.some (i * 5 + 4) (by omega); have fz := hk2.free; have hlw : (w1.heap.size + 1) < w2.heap.size := (by omega); have HK2 := hide hk2; clear hk2))
        all_goals
          have hbr2 : Below wr.heap.size wr w2 := belOn hbRr (by omega) HB2.out
          have hb02 : Below W0.heap.size W0 w2 := belOn hbR0 (by omega) HB2.out
          go_wp2
          go_roundw
          case rel =>
            have hpb := put5_below (y := ys[i]) (o := i * 5) (b := (w1.heap.size + 1)) hb02 (by omega)
            have hpk := put5_blk HK2.out (i * 5) ys[i]
            have hpr := RowF.snoc (y := ys[i]) (g := fun j => (ys[j]?).getD (leaf 0 0 ⟨#[]⟩)) HK2.out (HRFr.out.below hbr2 (by omega)) (by omega) (by simp [hyi])
            have hpf : FRow (put5 w2 (w1.heap.size + 1) (i * 5) ys[i]) bf fs := fun q hq j hj => (put5_same _ _ _ _ _ (by omega) _).trans ((HFRr.out.below hbr2 hbfr) q hq j hj)
            have hpx : BoxR (put5 w2 (w1.heap.size + 1) (i * 5) ys[i]) w1.heap.size kind (some ⟨(w1.heap.size + 1), 0, none⟩) l.length l.length := (put5_hp _ _ _ _ _ (by omega)).trans (HXFr.out.below hbr2 (by omega))
            have hps := put5_size w2 (w1.heap.size + 1) (i * 5) ys[i]
            rw [← put5_eq] at hpb hpk hpr hpf hpx hps
            exact ⟨i + 1, by go_num, by omega, hpb, by omega, hpf, hpx, hpk, hpr⟩
          case measure => simp [intOf]; omega
      · have hie : i = l.length := by omega
        subst hie
        have hrow : Row wr (w1.heap.size + 1) 0 ys := HRFr.out.row ys (by rw [HY.out]; exact Nat.le_refl _) (fun j hj => by simp [hj])
        have hlaid := laid_gen w.heap.size kind hk0 hk1 ys (ms.map fun m => m.2.2) (by rw [List.length_map, HD.out, HY.out]) (w1.heap.size + 1) l.length (by rw [HY.out]; exact h0) (by rw [HY.out]; exact Nat.le_refl _) (by rw [HY.out]; exact hcc) wr hbw.size (by omega) hrow (fun x hx => (HLS.out x hx).keep hbw (Nat.le_refl _)) (fun d hd W => HDS.out d hd _ W) (fun W hW => by rw [HY.out]; exact (HF.out W (belOn hbw hbw.size hW)).mono (fun e w' h => h.post))
        rw [HY.out] at hlaid
        have HLD := hide hlaid
        obtain ⟨x0, x1⟩ := HXFr.out.cells
        have hfw : w1.heap.size < wr.heap.size := by omega
        clear hlaid hrow
        go_wp2_with fail
        refine HLD.out.mono ?_
        rintro e3 w3 ⟨a2, a3, c2, c3, rfl, HLV, hb3⟩
        have hs3 := hb3.size
        have hb03 : Below W0.heap.size W0 w3 := belOn hb hsb hb3
        have hbw3 : Below w.heap.size w w3 := belOn hb0 (by omega) hb03
        have hdp1 := HDP.out a2 a3 c2 c3
        generalize hv : V.of 24 0 ⟨#[]⟩ a2 c2 0 [leaf 5 kind ⟨#[]⟩, .of 21 0 ⟨#[]⟩ a3 c3 0 ((outs ys (ms.map fun m => m.2.2)).take (saidN ys (ms.map fun m => m.2.2) ys.length))] = v at HLV hdp1
        have hvv : v.val = .agg #[.int .i64 24, .int .u64 0, .string ⟨#[]⟩, .slice a2 2 c2, .int .i64 0] := by rw [← hv, V.val_of]; rfl
        obtain ⟨W3, hW3⟩ : ∃ W3, w3.alloc (Obj.cells #[.int .i64 24, .int .u64 0, .string ⟨#[]⟩, .slice a2 2 c2, .int .i64 0] 42) = W3 := ⟨_, rfl⟩
        have hsW3 : W3.heap.size = w3.heap.size + 1 := by rw [← hW3]; simp
        have hb33 : Below w3.heap.size w3 W3 := by rw [← hW3]; exact bel1 (Below.refl _ _) (Nat.le_refl _) _
        have hx3 : W3.heap[w3.heap.size]? = some (.cells #[.int .i64 24, .int .u64 0, .string ⟨#[]⟩, .slice a2 2 c2, .int .i64 0] 42 (0, 0)) := by rw [← hW3]; exact World.alloc_heap_new _ _
        have hdep := depth_any v w3.heap.size W3 (by omega) (LiesIn.keep HLV.out (fun b hq o => hb33.cell (p := ⟨b, o, none⟩) (by show b < _; omega)) (fun b hq => by omega))
        rw [hvv] at hdep
        generalize mx (v.all 1) = dpt at hdep hdp1
        have HDE := hide hdep
        have HW3 := hide hW3
        have HV := hide hv
        clear hdep hW3 hv
        go_wp2_with fail
        rw [HW3.out]
        refine HDE.out.mono ?_
        rintro e4 w4 ⟨rfl, hb4⟩
        have hs4 := hb4.size
        have hb34 : Below w3.heap.size w3 w4 := hb33.trans (hb4.mono (by omega))
        have hb04 : Below W0.heap.size W0 w4 := belOn hb03 (by omega) hb34
        have hbw4 : Below w.heap.size w w4 := belOn hb0 (by omega) hb04
        have xz1 := xz.below hb04 (by omega)
        obtain ⟨z0, z1, z2, z3, z4⟩ := xz1.cells
        have fz := (show Blk w4 (w.heap.size + 1) 42 5 from ⟨_, xz1, rfl⟩).free
        have hx4 := (hb4.block w3.heap.size (by omega)).trans hx3
        have o0 : w4.cell? ⟨w3.heap.size, 0, none⟩ = some (.int .i64 24) := by unfold World.cell?; simp only [hx4]; rfl
        have o1 : w4.cell? ⟨w3.heap.size, 1, none⟩ = some (.int .u64 0) := by unfold World.cell?; simp only [hx4]; rfl
        have o2 : w4.cell? ⟨w3.heap.size, 2, none⟩ = some (.string ⟨#[]⟩) := by unfold World.cell?; simp only [hx4]; rfl
        have o3 : w4.cell? ⟨w3.heap.size, 3, none⟩ = some (.slice a2 2 c2) := by unfold World.cell?; simp only [hx4]; rfl
        have o4 : w4.cell? ⟨w3.heap.size, 4, none⟩ = some (.int .i64 0) := by unfold World.cell?; simp only [hx4]; rfl
        have hgt : ¬ (32 < dpt) := by omega
        have hz5 : w.heap.size + 1 < w4.heap.size := by omega
        have hz6 : w3.heap.size < w4.heap.size := by omega
        clear xz1 hx4 hx3
        obtain ⟨P, hPe⟩ : ∃ P, put5 w4 (w.heap.size + 1) 0 (.of 24 0 ⟨#[]⟩ a2 c2 0 [leaf 0 0 ⟨#[]⟩, leaf 0 0 ⟨#[]⟩]) = P := ⟨_, rfl⟩
        have hPs : P.heap.size = w4.heap.size := by rw [← hPe]; exact put5_size _ _ _ _
        have hPb : Below w.heap.size w P := by rw [← hPe]; exact put5_below hbw4 (by omega)
        have hPm : ∀ b', b' ≠ w.heap.size + 1 → Same w4 P b' := fun b' hb' => by rw [← hPe]; exact put5_same _ _ _ _ _ hb'
        have hq0 : ∀ q, q < 5 → P.cell? ⟨w.heap.size + 1, q, none⟩ = (words (.of 24 0 ⟨#[]⟩ a2 c2 0 [leaf 0 0 ⟨#[]⟩, leaf 0 0 ⟨#[]⟩]))[q]? := fun q hq => by
          have := put5_cell (w := w4) (b := w.heap.size + 1) (o := 0) (y := .of 24 0 ⟨#[]⟩ a2 c2 0 [leaf 0 0 ⟨#[]⟩, leaf 0 0 ⟨#[]⟩]) (t := 42) (m := 5) ⟨_, xz.below hb04 (by omega), rfl⟩ (by omega) q hq
          rw [Nat.zero_add] at this
          rw [← hPe]
          exact this
        rw [← put5_of] at hPe
        have hPe' : ((((w4.setCell ⟨w.heap.size + 1, 0, none⟩ (.int .i64 24)).setCell ⟨w.heap.size + 1, 1, none⟩ (.int .u64 0)).setCell ⟨w.heap.size + 1, 2, none⟩ (.string ⟨#[]⟩)).setCell ⟨w.heap.size + 1, 3, none⟩ (.slice a2 2 c2)).setCell ⟨w.heap.size + 1, 4, none⟩ (.int .i64 0) = P := hPe
        have HPE := hide hPe'
        have HPM := hide hPm
        have HQ0 := hide hq0
        clear hPe hPe' hPm hq0
        go_wp2
        rw [HPE.out]
        have j0 : P.cell? ⟨w.heap.size + 1, 0, none⟩ = some (.int .i64 24) := HQ0.out 0 (by omega)
        have j1 : P.cell? ⟨w.heap.size + 1, 1, none⟩ = some (.int .u64 0) := HQ0.out 1 (by omega)
        have j2 : P.cell? ⟨w.heap.size + 1, 2, none⟩ = some (.string ⟨#[]⟩) := HQ0.out 2 (by omega)
        have j3 : P.cell? ⟨w.heap.size + 1, 3, none⟩ = some (.slice a2 2 c2) := HQ0.out 3 (by omega)
        have j4 : P.cell? ⟨w.heap.size + 1, 4, none⟩ = some (.int .i64 0) := HQ0.out 4 (by omega)
        refine bodyPost_ret (v := .tuple #[.agg #[.int .i64 24, .int .u64 0, .string ⟨#[]⟩, .slice a2 2 c2, .int .i64 0], .int .i64 0]) (by simp [results, Tryz.results35, go_sem, j0, j1, j2, j3, j4]) rfl ⟨v, ?_, ⟨⟨a2, a3, c2, c3, HV.out.symm⟩, ?_⟩, hPb⟩
        · show _ = Ending.returned (.tuple #[v.val, .int .i64 0])
          rw [hvv]
        · exact LiesIn.keep HLV.out (fun b' hq o => (HPM.out b' (by omega) o).trans (hb34.cell (p := ⟨b', o, none⟩) (by show b' < _; omega))) (fun b' hq => by omega)
theorem t_t (v : V) : v.t.t = v.t := by
  refine V.ind (Q := fun v => v.t.t = v.t) ?_ v
  intro k n s a c e l ih
  have h : V.ts (V.ts l) = V.ts l := by
    rw [V.ts_map, V.ts_map, List.map_map]
    exact List.map_congr_left fun x hx => ih x hx
  rw [V.t_of]
  show (V.of k n s none 0 e (V.ts l)).t = _
  rw [V.t_of, h]
theorem ts_ts (l : List V) : V.ts (V.ts l) = V.ts l := by
  rw [V.ts_map, V.ts_map, List.map_map]
  exact List.map_congr_left fun x _ => t_t x
def nul : T := leaf 0 0 ⟨#[]⟩
theorem leaf_t (k n : Int) (s : ByteArray) : (leaf k n s).t = leaf k n s := by
  unfold leaf; rw [V.t_of]; rfl
theorem k_t (v : V) : v.t.k = v.k := by obtain ⟨k, n, s, a, c, e, l, rfl⟩ := V.ex v; rw [V.t_of]; rfl
theorem e_t (v : V) : v.t.e = v.e := by obtain ⟨k, n, s, a, c, e, l, rfl⟩ := V.ex v; rw [V.t_of]; rfl
theorem l_t (v : V) : v.t.l = V.ts v.l := by
  obtain ⟨k, n, s, a, c, e, l, rfl⟩ := V.ex v
  rw [V.t_of, V.l_of]
  exact V.l_of _ _ _ _ _ _ _
theorem kindV_t (v : V) : kindV v.t.k v.t.l = kindV v.k v.l := by
  rw [k_t, l_t]
  match v.l with
  | [] => rfl
  | [x] => rfl
  | [x, y] =>
    show (if v.k = 24 then kindL x.t.t krows else none) = (if v.k = 24 then kindL x.t krows else none)
    rw [t_t]
  | x :: y :: z :: l => rfl
def fillT (re : T → T × Int) (f : FS) (x : T) : T × Int :=
  if x.k = 0 then (if f.must = true then (nul, 72) else (f.d, 0))
  else if f.ty = 100 then (x, 0)
  else if f.ty = 101 then (if x.k = 20 then (T.of 23 0 ⟨#[]⟩ 20 [x], 0) else if x.k = 23 ∧ x.e = 20 then (x, 0) else (nul, 73))
  else if f.ty = 102 then (match kindV x.k x.l with
    | some k => if f.ks.contains k = true then re x else (nul, 73)
    | none => (nul, 73))
  else if x.k = f.ty then (x, 0) else (nul, 73)
def fillsT (re : T → T × Int) (fs : List FS) (th : List T) : List (T × Int) := fs.mapIdx fun i f => fillT re f ((th[i]?).getD nul)
def badAt (rs : List (T × Int)) : Option Nat := rs.findIdx? fun r => r.2 != 0
def rowT (k : Int) (rs : List (T × Int)) : (Int × List T) × Int × Int := match badAt rs with
  | some i => ((0, []), (i : Int), ((rs[i]?).getD (nul, 0)).2)
  | none => ((k, rs.map Prod.fst), 0, 0)
def unpT (re : T → T × Int) (x : T) : (Int × List T) × Int × Int := match kindV x.k x.l with
  | none => ((0, []), 0, 70)
  | some k => match ftab k with
    | none => ((0, []), 0, 70)
    | some fs => if ((x.l[1]?).getD nul).k ≠ 21 then ((0, []), 0, 70)
      else if fs.length < ((x.l[1]?).getD nul).l.length then ((0, []), (fs.length : Int), 71)
      else rowT k (fillsT re fs ((x.l[1]?).getD nul).l)
def dsOf (k : Int) : List V := ((ftab k).getD []).map FS.d
def laidT (k : Int) (l : List T) : T := T.of 24 0 ⟨#[]⟩ 0 [leaf 5 k ⟨#[]⟩, T.of 21 0 ⟨#[]⟩ 0 ((outs l (dsOf k)).take (saidN l (dsOf k) l.length))]
def repT : Nat → T → T × Int
  | 0, _ => (nul, 0)
  | n + 1, x => if (unpT (repT n) x).2.2 ≠ 0 then (nul, (unpT (repT n) x).2.2) else (laidT (unpT (repT n) x).1.1 (unpT (repT n) x).1.2, 0)
def ValPost (n₀ : Nat) (r : T × Int) (w : World) (e : Ending) (w' : World) : Prop := ∃ y : V, e = VN y r.2 ∧ Hid (y.t = r.1 ∧ LiesIn (fun q => q < n₀ ∨ (w.heap.size ≤ q ∧ q < w'.heap.size)) w' y) ∧ Below w.heap.size w w'
def RepOk (re : T → T × Int) (v : V) : Prop := ∀ n₀ w, n₀ ≤ w.heap.size → Lies n₀ w v → Calls Tryz.prog 138 #[v.val] w (ValPost n₀ (re v.t) w)
theorem Lies.wide {n₀ lo hi : Nat} {W : World} {v : V} (h : Lies n₀ W v) : LiesIn (fun q => q < n₀ ∨ (lo ≤ q ∧ q < hi)) W v := LiesIn.keep h (fun _ _ _ => rfl) (fun _ h => .inl h)
theorem LiesIn.wider {n₀ lo lo' hi hi' : Nat} {W w : World} {v : V} (h : LiesIn (fun q => q < n₀ ∨ (lo' ≤ q ∧ q < hi')) W v) (hs : ∀ b, (b < n₀ ∨ (lo' ≤ b ∧ b < hi')) → Same W w b) (h1 : lo ≤ lo') (h2 : hi' ≤ hi) : LiesIn (fun q => q < n₀ ∨ (lo ≤ q ∧ q < hi)) w v :=
  LiesIn.keep h hs (fun b hb => by
    rcases hb with hb | hb
    · exact .inl hb
    · exact .inr ⟨by omega, by omega⟩)
def mxn : List Nat → Nat
  | [] => 0
  | x :: l => max x (mxn l)
def T.dp : T → Nat := V.fold (fun _ ds => mxn ds + 1) 0
theorem dp_of (k n : Int) (s : ByteArray) (a : Option Addr) (c : Nat) (e : Int) (l : List V) : T.dp (V.of k n s a c e l) = mxn (l.map T.dp) + 1 := by
  unfold T.dp
  rw [V.fold_of]
theorem dp_t (v : V) : T.dp v.t = T.dp v := by
  refine V.ind (Q := fun v => T.dp v.t = T.dp v) ?_ v
  intro k n s a c e l ih
  rw [V.t_of]
  show T.dp (V.of k n s none 0 e (V.ts l)) = _
  rw [dp_of, dp_of, V.ts_map, List.map_map]
  congr 2
  exact List.map_congr_left fun x hx => ih x hx
theorem mxn_mem {x : Nat} {l : List Nat} (h : x ∈ l) : x ≤ mxn l := by
  induction l with
  | nil => cases h
  | cons y l ih =>
    rw [mxn]
    rcases List.mem_cons.1 h with rfl | h
    · omega
    · have := ih h; omega
theorem mxn_le {l : List Nat} {m : Nat} (h : ∀ x ∈ l, x ≤ m) : mxn l ≤ m := by
  induction l with
  | nil => exact Nat.zero_le _
  | cons y l ih =>
    rw [mxn]
    have := h y (by simp)
    have := ih (fun x hx => h x (by simp [hx]))
    omega
theorem dp_sub {k n : Int} {s : ByteArray} {a : Option Addr} {c : Nat} {e : Int} {l : List V} {x : V} (h : x ∈ l) : T.dp x < T.dp (V.of k n s a c e l) := by
  rw [dp_of]
  have := mxn_mem (List.mem_map.2 ⟨x, h, rfl⟩ : T.dp x ∈ l.map T.dp)
  omega
theorem nul_t : nul.t = nul := leaf_t _ _ _
theorem fs_d_t (f : FS) : f.d.t = f.d := leaf_t _ _ _
theorem Ints.cell {w : World} {b : Nat} {l : List Int} (h : Ints w b l) (i : Nat) (hi : i < l.length) : w.cell? ⟨b, i, none⟩ = some (.int .i64 l[i]) := by
  unfold Ints at h
  unfold World.cell?
  simp only [h]
  simp [hi]
set_option maxRecDepth 100000 in
set_option maxHeartbeats 2000000 in
theorem index_any (l : List Int) (hl : l.length ≤ 1000) (a : Option Addr) (k : Int) (w : World) (hi : 0 < l.length → ∃ b, a = some ⟨b, 0, none⟩ ∧ b < w.heap.size ∧ Ints w b l) :
    Calls Tryz.prog 152 #[.slice a l.length l.length, .int .i64 k] w fun e w' => (∃ i : Int, e = .returned (.int .i64 i) ∧ (0 ≤ i ↔ l.contains k = true) ∧ -1 ≤ i ∧ i ≤ 1000) ∧ Below w.heap.size w w' := by
  have HI := hide hi
  clear hi
  go_enter Tryz.func152, Tryz.ntmps152
  go_wp2
  go_loopw [8] (fun u wr => ∃ i : Nat, u = .int .i64 i ∧ i ≤ l.length ∧ Below w.heap.size w wr ∧ Hid (∀ j (h : j < l.length), j < i → l[j] ≠ k)) (fun u _ => l.length + 1 - (intOf u).toNat)
  case atStart => exact ⟨0, rfl, by omega, Below.refl _ _, fun j _ h => absurd h (by omega)⟩
  case round =>
    obtain ⟨i, rfl, hi, hb, HN⟩ := hrel
    have hsz := hb.size
    by_cases hil : i < l.length
    · obtain ⟨b, rfl, hbl, hin⟩ := HI.out (by omega)
      have hcell := (show Ints wr b l from (hb.block b hbl).trans hin).cell i hil
      have hbw : b < wr.heap.size := by omega
      clear hin
      by_cases hk : l[i] = k
      · rw [hk] at hcell
        have HC : Hid (l.contains k = true) := List.contains_iff_mem.2 (hk ▸ List.getElem_mem hil)
        clear hk HN
        have hkb : (k == k) = true := by simp
        go_wp2
        exact bodyPost_ret (v := .int .i64 i) (by simp [results, Tryz.results152, go_sem]) rfl ⟨⟨i, rfl, ⟨fun _ => HC.out, fun _ => by omega⟩, by omega, by omega⟩, hb⟩
      · generalize hx : l[i] = x at hcell hk
        have hkb : (k == x) = false := by rw [beq_eq_false_iff_ne]; exact fun h => hk h.symm
        have hkx : ¬ k = x := fun h => hk h.symm
        have HNX : Hid (∀ j (h : j < l.length), j < i + 1 → l[j] ≠ k) := by
          intro j h hlt
          by_cases e : j = i
          · subst e; rw [hx]; exact hk
          · exact HN.out j h (by omega)
        clear hx HN
        go_wp2
        go_roundw
        case rel => exact ⟨i + 1, by go_num, by omega, hb, HNX⟩
        case measure => simp [intOf]; omega
    · have hie : i = l.length := by omega
      subst hie
      have HC : Hid (l.contains k = false) := by
        rw [Hid, Bool.eq_false_iff]
        intro h
        obtain ⟨j, hj, e⟩ := List.mem_iff_getElem.1 (List.contains_iff_mem.1 h)
        exact HN.out j hj hj e
      clear HN
      go_wp2
      exact bodyPost_ret (v := .int .i64 (-1)) (by simp [results, Tryz.results152, go_sem]) rfl ⟨⟨-1, rfl, ⟨fun h => absurd h (by omega), fun h => by rw [HC.out] at h; cases h⟩, by omega, by omega⟩, hb⟩
set_option maxRecDepth 100000 in
set_option maxHeartbeats 2000000 in
theorem contains_any (l : List Int) (hl : l.length ≤ 1000) (a : Option Addr) (k : Int) (w : World) (hi : 0 < l.length → ∃ b, a = some ⟨b, 0, none⟩ ∧ b < w.heap.size ∧ Ints w b l) :
    Calls Tryz.prog 137 #[.slice a l.length l.length, .int .i64 k] w fun e w' => e = .returned (.bool (l.contains k)) ∧ Below w.heap.size w w' := by
  have HI := hide (index_any l hl a k w hi)
  clear hi
  go_enter Tryz.func137, Tryz.ntmps137
  go_wp2_with fail
  refine HI.out.mono ?_
  rintro e1 w1 ⟨⟨i, rfl, hiff, h1, h2⟩, hb⟩
  have hd : decide (0 ≤ i) = l.contains k := by
    by_cases h : 0 ≤ i
    · rw [decide_eq_true h, hiff.1 h]
    · rw [decide_eq_false h]
      cases hc : l.contains k
      · rfl
      · exact absurd (hiff.2 hc) h
  have HD := hide hd
  clear hd hiff
  go_wp2
  exact bodyPost_ret (v := .bool (decide (0 ≤ i))) (by simp [results, Tryz.results137, go_sem]) rfl ⟨by rw [HD.out], hb⟩
set_option maxRecDepth 100000 in
set_option maxHeartbeats 2000000 in
theorem reader_hund (f : Fd) (h0 : f.ty = 100) (w : World) : Calls Tryz.prog 126 #[f.val] w fun e w' => e = .returned (.func (.func 134) #[] #[]) ∧ Below w.heap.size w w' := by
  rw [Fd.val_eq, h0]
  go_enter Tryz.func126, Tryz.ntmps126
  go_wp2
  go_ret
  exact ⟨rfl, bel1 (Below.refl _ _) (Nat.le_refl _) _⟩
set_option maxRecDepth 100000 in
set_option maxHeartbeats 2000000 in
theorem reader_syms (f : Fd) (h0 : f.ty = 101) (w : World) : Calls Tryz.prog 126 #[f.val] w fun e w' => e = .returned (.func (.func 135) #[] #[]) ∧ Below w.heap.size w w' := by
  rw [Fd.val_eq, h0]
  go_enter Tryz.func126, Tryz.ntmps126
  go_wp2
  go_ret
  exact ⟨rfl, bel1 (Below.refl _ _) (Nat.le_refl _) _⟩
set_option maxRecDepth 100000 in
set_option maxHeartbeats 2000000 in
theorem reader_comp (f : Fd) (h0 : f.ty = 102) (w : World) : Calls Tryz.prog 126 #[f.val] w fun e w' => e = .returned (.func (.func 136) #[] #[.pointer (some ⟨w.heap.size, 0, none⟩)]) ∧ Below w.heap.size w w' ∧
    w'.cell? ⟨w.heap.size, 2, none⟩ = some (.slice f.ka f.kl f.kc) := by
  rw [Fd.val_eq, h0]
  go_enter Tryz.func126, Tryz.ntmps126
  go_wp2
  go_ret
  refine ⟨rfl, bel1 (Below.refl _ _) (Nat.le_refl _) _, ?_⟩
  unfold World.cell?
  simp only [World.alloc_heap_new]
  rfl
set_option maxRecDepth 100000 in
set_option maxHeartbeats 2000000 in
theorem reader1_any (v : V) (w : World) : Calls Tryz.prog 134 #[v.val] w fun e w' => e = VN v 0 ∧ Below w.heap.size w w' := by
  rw [V.val_eq]
  go_enter Tryz.func134, Tryz.ntmps134
  go_wp2
  exact bodyPost_ret (v := .tuple #[.agg #[.int .i64 v.k, .int .u64 v.n, .string v.s, .slice v.a v.l.length v.c, .int .i64 v.e], .int .i64 0]) (by simp [results, Tryz.results134, go_sem]) rfl ⟨rfl, bel2 (Below.refl _ _) (Nat.le_refl _) _ _⟩
set_option maxRecDepth 100000 in
set_option maxHeartbeats 2000000 in
theorem reader3_bad (P : Nat) (ty : Int) (v : V) (w : World) (hP : P < w.heap.size) (hc : w.cell? ⟨P, 1, none⟩ = some (.int .i64 ty)) (hy : v.k ≠ ty) : Calls Tryz.prog 139 #[v.val, .pointer (some ⟨P, 0, none⟩)] w fun e w' => e = VN nul 73 ∧ Below w.heap.size w w' := by
  have hc1 : (((w.alloc (Obj.cells #[.int .i64 v.k, .int .u64 v.n, .string v.s, .slice v.a v.l.length v.c, .int .i64 v.e] 42)).alloc (Obj.cells #[.int .i64 0, .int .u64 0, .string ⟨#[]⟩, .slice none 0 0, .int .i64 0] 42))).cell? ⟨P, 1, none⟩ = some (.int .i64 ty) := by
    rw [← hc]
    exact (bel2 (Below.refl _ _) (Nat.le_refl _) _ _).cell (p := ⟨P, 1, none⟩) hP
  rw [V.val_eq]
  have hyb : (v.k == ty) = false := by simpa using hy
  have hyn : (v.k != ty) = true := by simpa using hy
  go_enter Tryz.func139, Tryz.ntmps139
  go_wp2
  exact bodyPost_ret (v := .tuple #[.agg #[.int .i64 0, .int .u64 0, .string ⟨#[]⟩, .slice none 0 0, .int .i64 0], .int .i64 73]) (by simp [results, Tryz.results139, go_sem]) rfl ⟨rfl, bel2 (Below.refl _ _) (Nat.le_refl _) _ _⟩
def symT (x : T) : T × Int := if x.k = 20 then (T.of 23 0 ⟨#[]⟩ 20 [x], 0) else if x.k = 23 ∧ x.e = 20 then (x, 0) else (nul, 73)
def compT (re : T → T × Int) (ks : List Int) (x : T) : T × Int := match kindV x.k x.l with
  | some k => if ks.contains k = true then re x else (nul, 73)
  | none => (nul, 73)
theorem VN_nul (n : Int) : VN nul n = .returned (.tuple #[.agg #[.int .i64 0, .int .u64 0, .string ⟨#[]⟩, .slice none 0 0, .int .i64 0], .int .i64 n]) := rfl
theorem nul_lies (n₀ : Nat) (w : World) : Lies n₀ w nul := leaf_lies _ _ _ _ _ (by decide) (by decide) (by decide)
theorem valpost_nul {n₀ : Nat} {w w' : World} {n : Int} (hb : Below w.heap.size w w') : ValPost n₀ (nul, n) w (VN nul n) w' := ⟨nul, rfl, ⟨nul_t, (nul_lies _ _).wide⟩, hb⟩
theorem valpost_self {n₀ : Nat} {w w' : World} {v : V} (hl : Lies n₀ w v) (hn : n₀ ≤ w.heap.size) (hb : Below w.heap.size w w') : ValPost n₀ (v.t, 0) w (VN v 0) w' := ⟨v, rfl, ⟨rfl, (hl.keep hb hn).wide⟩, hb⟩
set_option maxRecDepth 100000 in
set_option maxHeartbeats 2000000 in
theorem symbols_any (v : V) (n₀ : Nat) (w : World) (hn : n₀ ≤ w.heap.size) (hl : Lies n₀ w v) : Calls Tryz.prog 135 #[v.val] w (ValPost n₀ (symT v.t) w) := by
  have HL := hide hl
  unfold symT
  rw [k_t, e_t]
  clear hl
  by_cases h20 : v.k = 20
  · rw [if_pos h20]
    obtain ⟨W2, hW2⟩ : ∃ W2, ((w.alloc (Obj.cells #[.int .i64 v.k, .int .u64 v.n, .string v.s, .slice v.a v.l.length v.c, .int .i64 v.e] 42)).alloc (Obj.cells #[.int .i64 23, .int .u64 0, .string ⟨#[]⟩, .slice (some ⟨w.heap.size + 1 + 1, 0, none⟩) 1 1, .int .i64 20] 42)).alloc (Obj.cells #[.int .i64 v.k, .int .u64 v.n, .string v.s, .slice v.a v.l.length v.c, .int .i64 v.e] 42) = W2 := ⟨_, rfl⟩
    have hs2 : W2.heap.size = w.heap.size + 3 := by rw [← hW2]; simp
    have hb2 : Below w.heap.size w W2 := by rw [← hW2]; exact bel1 (bel2 (Below.refl _ _) (Nat.le_refl _) _ _) (by simp; omega) _
    have xv : BoxV W2 (w.heap.size + 1 + 1) v := by rw [← hW2]; exact heap_at2 _ _ _ _
    have xz : W2.heap[w.heap.size + 1]? = some (.cells #[.int .i64 23, .int .u64 0, .string ⟨#[]⟩, .slice (some ⟨w.heap.size + 1 + 1, 0, none⟩) 1 1, .int .i64 20] 42 (0, 0)) := by rw [← hW2]; exact heap_past (heap_at1 _ _ _) _
    have z0 : W2.cell? ⟨w.heap.size + 1, 0, none⟩ = some (.int .i64 23) := by unfold World.cell?; simp only [xz]; rfl
    have z1 : W2.cell? ⟨w.heap.size + 1, 1, none⟩ = some (.int .u64 0) := by unfold World.cell?; simp only [xz]; rfl
    have z2 : W2.cell? ⟨w.heap.size + 1, 2, none⟩ = some (.string ⟨#[]⟩) := by unfold World.cell?; simp only [xz]; rfl
    have z3 : W2.cell? ⟨w.heap.size + 1, 3, none⟩ = some (.slice (some ⟨w.heap.size + 1 + 1, 0, none⟩) 1 1) := by unfold World.cell?; simp only [xz]; rfl
    have z4 : W2.cell? ⟨w.heap.size + 1, 4, none⟩ = some (.int .i64 20) := by unfold World.cell?; simp only [xz]; rfl
    obtain ⟨y, hy⟩ : ∃ y, V.of 23 0 ⟨#[]⟩ (some ⟨w.heap.size + 1 + 1, 0, none⟩) 1 20 [v] = y := ⟨_, rfl⟩
    have hyt : y.t = T.of 23 0 ⟨#[]⟩ 20 [v.t] := by rw [← hy, V.t_of]; rfl
    have hyl : LiesIn (fun q => q < n₀ ∨ (w.heap.size ≤ q ∧ q < W2.heap.size)) W2 y := by
      have hvl : LiesIn (fun q => q < n₀ ∨ (w.heap.size ≤ q ∧ q < W2.heap.size)) W2 v := (HL.out.keep hb2 hn).wide
      rw [← hy]
      refine .mk ⟨by decide, by decide, by decide, by decide, by simp, by simp⟩ (fun _ => ⟨_, _, rfl, .inr ⟨by omega, by omega⟩, ?_⟩) (fun x hx => ?_)
      · intro i hi
        have h1 : i < 1 := hi
        obtain rfl : i = 0 := by omega
        obtain ⟨c0, c1, c2, c3, c4⟩ := xv.cells
        simp only [Nat.zero_mul, Nat.add_zero, Nat.zero_add]
        exact ⟨c0, c1, c2, c3, c4⟩
      · rw [List.mem_singleton] at hx
        subst hx
        exact hvl
    have hyn : VN y 0 = .returned (.tuple #[.agg #[.int .i64 23, .int .u64 0, .string ⟨#[]⟩, .slice (some ⟨w.heap.size + 1 + 1, 0, none⟩) 1 1, .int .i64 20], .int .i64 0]) := by
      unfold VN
      rw [← hy, V.l_of]
      rfl
    have HW2 := hide hW2
    have HYL := hide hyl
    have HYT := hide hyt
    have HYN := hide hyn
    clear hW2 hyl hyt hyn xz hy
    rw [V.val_eq]
    rw [h20] at HW2 ⊢
    go_enter Tryz.func135, Tryz.ntmps135
    go_wp2
    rw [HW2.out]
    exact bodyPost_ret (v := .tuple #[.agg #[.int .i64 23, .int .u64 0, .string ⟨#[]⟩, .slice (some ⟨w.heap.size + 1 + 1, 0, none⟩) 1 1, .int .i64 20], .int .i64 0]) (by simp [results, Tryz.results135, go_sem, z0, z1, z2, z3, z4]) rfl ⟨y, HYN.out.symm, ⟨HYT.out, HYL.out⟩, hb2⟩
  · rw [if_neg h20]
    have hk20 : (v.k == 20) = false := by simpa using h20
    by_cases h23 : v.k = 23
    · by_cases he : v.e = 20
      · rw [if_pos ⟨h23, he⟩]
        rw [V.val_eq]
        have hend : ∀ w', Below w.heap.size w w' → ValPost n₀ (v.t, 0) w (VN v 0) w' := fun w' hb => valpost_self HL.out hn hb
        have HE := hide hend
        unfold VN at HE
        rw [h23, he] at HE ⊢
        clear hend
        go_enter Tryz.func135, Tryz.ntmps135
        go_wp2
        refine bodyPost_ret (v := .tuple #[.agg #[.int .i64 23, .int .u64 v.n, .string v.s, .slice v.a v.l.length v.c, .int .i64 20], .int .i64 0]) (by simp [results, Tryz.results135, go_sem]) rfl (HE.out _ ?_)
        exact bel2 (Below.refl _ _) (Nat.le_refl _) _ _
      · rw [if_neg (fun h => he h.2)]
        rw [V.val_eq, h23]
        have hke : (v.e == 20) = false := by simpa using he
        go_enter Tryz.func135, Tryz.ntmps135
        go_wp2
        exact bodyPost_ret (v := .tuple #[.agg #[.int .i64 0, .int .u64 0, .string ⟨#[]⟩, .slice none 0 0, .int .i64 0], .int .i64 73]) (by simp [results, Tryz.results135, go_sem]) rfl (valpost_nul (bel2 (Below.refl _ _) (Nat.le_refl _) _ _))
    · rw [if_neg (fun h => h23 h.1)]
      rw [V.val_eq]
      have hk23 : (v.k == 23) = false := by simpa using h23
      go_enter Tryz.func135, Tryz.ntmps135
      go_wp2
      exact bodyPost_ret (v := .tuple #[.agg #[.int .i64 0, .int .u64 0, .string ⟨#[]⟩, .slice none 0 0, .int .i64 0], .int .i64 73]) (by simp [results, Tryz.results135, go_sem]) rfl (valpost_nul (bel2 (Below.refl _ _) (Nat.le_refl _) _ _))
set_option maxRecDepth 100000 in
set_option maxHeartbeats 2000000 in
theorem reader2_any (re : T → T × Int) (ks : List Int) (hks : ks.length ≤ 1000) (P : Nat) (ka : Option Addr) (v : V) (hre : RepOk re v) (n₀ : Nat) (w : World) (hn : n₀ ≤ w.heap.size) (hl : Lies n₀ w v) (hP : P < w.heap.size) (hc : w.cell? ⟨P, 2, none⟩ = some (.slice ka ks.length ks.length))
    (hka : 0 < ks.length → ∃ b, ka = some ⟨b, 0, none⟩ ∧ b < w.heap.size ∧ Ints w b ks) :
    Calls Tryz.prog 136 #[v.val, .pointer (some ⟨P, 0, none⟩)] w (ValPost n₀ (compT re ks v.t) w) := by
  generalize hR : compT re ks v.t = R
  unfold compT at hR
  rw [kindV_t] at hR
  obtain ⟨W0, hW0⟩ : ∃ W0, (w.alloc (Obj.cells #[.int .i64 v.k, .int .u64 v.n, .string v.s, .slice v.a v.l.length v.c, .int .i64 v.e] 42)).alloc (Obj.cells #[.int .i64 0, .int .u64 0, .string ⟨#[]⟩, .slice none 0 0, .int .i64 0] 42) = W0 := ⟨_, rfl⟩
  have hs0 : W0.heap.size = w.heap.size + 2 := by rw [← hW0]; simp
  have hb0 : Below w.heap.size w W0 := by rw [← hW0]; exact bel2 (Below.refl _ _) (Nat.le_refl _) _ _
  have xv : BoxV W0 w.heap.size v := by rw [← hW0]; exact heap_past (World.alloc_heap_new _ _) _
  have xz : BoxV W0 (w.heap.size + 1) nul := by rw [← hW0]; exact heap_at1 _ _ _
  have HK := hide (kind_any v n₀ W0 (by omega) (hl.keep hb0 hn))
  unfold KindPost at HK
  generalize kindV v.k v.l = o at HK hR
  have HRR := hide hR
  clear hR
  have HL := hide hl
  have HRE := hide hre
  have HC : Hid (∀ W', Below w.heap.size w W' → W'.cell? ⟨P, 2, none⟩ = some (.slice ka ks.length ks.length)) := fun W' hb => (hb.cell (p := ⟨P, 2, none⟩) hP).trans hc
  have HKA : Hid (∀ W', Below w.heap.size w W' → 0 < ks.length → ∃ b, ka = some ⟨b, 0, none⟩ ∧ b < W'.heap.size ∧ Ints W' b ks) := fun W' hb h0 => by
    obtain ⟨b, e, h1, h2⟩ := hka h0
    exact ⟨b, e, by have := hb.size; omega, (hb.block b h1).trans h2⟩
  have HW0 := hide hW0
  clear hW0 hl hre hc hka
  rw [V.val_eq] at HK ⊢
  go_enter Tryz.func136, Tryz.ntmps136
  go_wp2_with fail
  rw [HW0.out]
  clear HW0
  refine HK.out.mono ?_
  rintro e1 w1 ⟨rfl, hb1⟩
  have hs1 := hb1.size
  have hbw1 : Below w.heap.size w w1 := belOn hb0 (by omega) hb1
  have bad : ∀ w2, Below W0.heap.size W0 w2 → ValPost n₀ (nul, 73) w (.returned (.tuple #[.agg #[.int .i64 0, .int .u64 0, .string ⟨#[]⟩, .slice none 0 0, .int .i64 0], .int .i64 73])) (put5 w2 (w.heap.size + 1) 0 nul) := fun w2 h2 => by
    rw [← VN_nul]
    exact valpost_nul (put5_below (belOn hb0 (by omega) h2) (by omega))
  have BAD := hide bad
  simp only [← put5_eq] at BAD
  clear bad
  cases o with
  | none =>
    have xz1 := xz.below hb1 (by omega)
    obtain ⟨z0, z1, z2, z3, z4⟩ := xz1.cells
    have fz := (show Blk w1 (w.heap.size + 1) 42 5 from ⟨_, xz1, rfl⟩).free
    have hz1 : w.heap.size + 1 < w1.heap.size := by omega
    clear xz1
    simp only [Option.getD_none, Option.isSome_none]
    go_wp2
    exact bodyPost_ret (v := .tuple #[.agg #[.int .i64 0, .int .u64 0, .string ⟨#[]⟩, .slice none 0 0, .int .i64 0], .int .i64 73]) (by simp [results, Tryz.results136, go_sem, z0, z1, z2, z3, z4]) rfl (by rw [← HRR.out]; exact BAD.out _ hb1)
  | some k =>
    simp only [Option.getD_some, Option.isSome_some]
    have HRS : Hid ((if ks.contains k = true then re v.t else (nul, 73)) = R) := HRR.out
    clear HRR
    have hcell := HC.out _ hbw1
    have hPw : P < w1.heap.size := by omega
    have HCON := hide (contains_any ks hks ka k w1 (HKA.out _ hbw1))
    generalize ks.contains k = r at HCON HRS
    go_wp2_with fail
    refine HCON.out.mono ?_
    rintro e2 w2 ⟨rfl, hb2⟩
    have hb02 : Below W0.heap.size W0 w2 := belOn hb1 hs1 hb2
    have hs2 := hb02.size
    cases r
    · have xz1 := xz.below hb02 (by omega)
      obtain ⟨z0, z1, z2, z3, z4⟩ := xz1.cells
      have fz := (show Blk w2 (w.heap.size + 1) 42 5 from ⟨_, xz1, rfl⟩).free
      have hz1 : w.heap.size + 1 < w2.heap.size := by omega
      clear xz1
      go_wp2
      exact bodyPost_ret (v := .tuple #[.agg #[.int .i64 0, .int .u64 0, .string ⟨#[]⟩, .slice none 0 0, .int .i64 0], .int .i64 73]) (by simp [results, Tryz.results136, go_sem, z0, z1, z2, z3, z4]) rfl (by rw [← HRS.out]; exact BAD.out _ hb02)
    · have hbw2 : Below w.heap.size w w2 := belOn hb0 (by omega) hb02
      obtain ⟨v0, v1, v2, v3, v4⟩ := (xv.below hb02 (by omega)).cells
      have hz0 : w.heap.size < w2.heap.size := by omega
      have HR := hide (HRE.out n₀ w2 (by omega) (HL.out.keep hbw2 hn))
      rw [V.val_eq] at HR
      have hrv : re v.t = R := HRS.out
      rw [hrv] at HR
      clear HRS hrv
      go_wp2_with fail
      refine HR.out.mono ?_
      rintro e3 w3 ⟨y, rfl, HY, hb3⟩
      have hb03 : Below W0.heap.size W0 w3 := belOn hb02 hs2 hb3
      have hs3 := hb3.size
      have xz1 := xz.below hb03 (by omega)
      obtain ⟨z0, z1, z2, z3, z4⟩ := xz1.cells
      have fz := (show Blk w3 (w.heap.size + 1) 42 5 from ⟨_, xz1, rfl⟩).free
      have hz1 : w.heap.size + 1 < w3.heap.size := by omega
      have hend : ValPost n₀ R w (VN y R.2) (put5 w3 (w.heap.size + 1) 0 y) := ⟨y, rfl, ⟨HY.out.1, HY.out.2.wider (fun b hb => put5_same _ _ _ _ _ (by omega)) (by omega) (by rw [put5_size]; exact Nat.le_refl _)⟩, put5_below (belOn hb0 (by omega) hb03) (by omega)⟩
      rw [← put5_eq] at hend
      have HEND := hide hend
      unfold VN at HEND ⊢
      clear hend xz1
      go_wp2
      exact bodyPost_ret (v := .tuple #[.agg #[.int .i64 y.k, .int .u64 y.n, .string y.s, .slice y.a y.l.length y.c, .int .i64 y.e], .int .i64 R.2]) (by simp [results, Tryz.results136, go_sem, z0, z1, z2, z3, z4]) rfl HEND.out
theorem mxn_app (l : List Nat) (x : Nat) : mxn (l ++ [x]) = max (mxn l) x := by
  induction l with
  | nil => simp [mxn]
  | cons y l ih => rw [List.cons_append, mxn, mxn, ih]; omega
theorem mxn_snoc (l : List V) (j : Nat) (h : j < l.length) : mxn ((l.take (j + 1)).map T.dp) = max (mxn ((l.take j).map T.dp)) (T.dp l[j]) := by
  rw [List.take_succ_eq_append_getElem h, List.map_append]
  exact mxn_app _ _
def RDpOk (x : V) : Prop := T.dp x ≤ 100000 → ∀ (n₀ : Nat) (w : World), n₀ ≤ w.heap.size → Lies n₀ w x →
  Calls Tryz.prog 38 #[x.val] w fun e w' => e = .returned (.int .i64 (T.dp x : Int)) ∧ Below w.heap.size w w'
set_option maxRecDepth 100000 in
set_option maxHeartbeats 1000000 in
theorem rdp_any : ∀ x, RDpOk x := by
  refine V.ind ?_
  intro k n s a c e l ih hw n₀ w hn hx
  rw [dp_of] at hw
  have HX := hide hx
  have IH := hide ih
  have ok := hx.ok
  have o2 := ok.l
  have o3 := ok.c
  clear ok hx ih
  rw [V.val_of]
  go_enter Tryz.func38, Tryz.ntmps38
  go_wp2
  obtain ⟨W0, hW0⟩ : ∃ W0, w.alloc (Obj.cells #[.int .i64 k, .int .u64 n, .string s, .slice a l.length c, .int .i64 e] 42) = W0 := ⟨_, rfl⟩
  have c3 : W0.cell? ⟨w.heap.size, 3, none⟩ = some (.slice a l.length c) := by rw [← hW0]; simp [World.cell?_alloc_at]
  have hs0 : W0.heap.size = w.heap.size + 1 := by rw [← hW0]; simp
  have hb0 : Below w.heap.size w W0 := by rw [← hW0]; exact bel1 (Below.refl _ _) (Nat.le_refl _) _
  rw [hW0]
  clear hW0
  go_loopw [3, 4] (fun z i wr => ∃ (j d : Nat), i = .int .i64 j ∧ z = .int .i64 (d : Int) ∧ j ≤ l.length ∧ d ≤ 100000 ∧ Below W0.heap.size W0 wr ∧ Hid (d = mxn ((l.take j).map T.dp))) (fun _ i _ => l.length - (intOf i).toNat)
  case atStart => exact ⟨0, 0, rfl, rfl, Nat.zero_le _, by omega, Below.refl _ _, by rw [List.take_zero]; rfl⟩
  case round =>
    obtain ⟨j, d, rfl, rfl, hj, hd, hb, HD⟩ := hrel
    have cc := (hb.cell (p := ⟨w.heap.size, 3, none⟩) (by simp; omega)).trans c3
    have hsz := hb.size
    by_cases hjl : j < l.length
    · obtain ⟨b, o, rfl, hlt, hr⟩ := HX.out.row (by omega)
      obtain ⟨x0, x1, x2, x3, x4⟩ := (hr.below (belOn hb0 (by omega) hb) (by omega)) j hjl
      have hwj : T.dp l[j] ≤ 100000 := by have := mxn_mem (List.mem_map.2 ⟨l[j], List.getElem_mem hjl, rfl⟩ : T.dp l[j] ∈ l.map T.dp); omega
      have hx := IH.out l[j] (List.getElem_mem hjl) hwj n₀ wr (by omega) ((HX.out.sub _ (List.getElem_mem hjl)).keep (belOn hb0 (by omega) hb) hn)
      rw [V.val_eq] at hx
      have HH := hide hx
      clear hx
      have HS := hide (mxn_snoc l j hjl)
      obtain ⟨q, hq⟩ : ∃ q, T.dp l[j] = q := ⟨_, rfl⟩
      rw [hq] at hwj HH HS
      clear hq
      go_wp2_with fail
      refine Calls.mono HH.out ?_
      rintro e w1 ⟨rfl, hb1⟩
      have hbw := belOn hb (by omega) hb1
      clear hb1
      by_cases hqd : q ≤ d
      · go_wp2
        all_goals
          go_roundw
          case rel => exact ⟨j + 1, d, by go_num, by first | rfl | (congr 1; omega), hjl, hd, hbw, by rw [HS.out, ← HD.out]; show d = max d q; omega⟩
          case measure => simp [intOf]; omega
      · go_wp2
        all_goals
          go_roundw
          case rel => exact ⟨j + 1, q, by go_num, by first | rfl | (congr 1; omega), hjl, by omega, hbw, by rw [HS.out, ← HD.out]; show q = max d q; omega⟩
          case measure => simp [intOf]; omega
    · obtain rfl : j = l.length := by omega
      go_wp2
      go_ret
      refine ⟨ret_int ?_, belOn hb0 (by omega) hb⟩
      have := HD.out
      rw [List.take_length] at this
      rw [dp_of, ← this]
      simp
end Go.Proofs.YtgldcchleoklcaaGreatDoor
