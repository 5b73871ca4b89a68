/- HPacked -/
import Derived.Test.YtgldcchleoklcaaGreatDoorF24
import Derived.Test.YtgldcchleoklcaaGreatDoorF10
import Derived.Deep.RegionHeld
namespace Go.Proofs.YtgldcchleoklcaaGreatDoor
open Go.RowKit
set_option linter.unusedVariables false
set_option linter.unusedSimpArgs false
def Fd.m (f : Fd) : Int × Bool × V := (f.ty, f.must, f.d)
def FieldsLike (n : Nat) (ms : List (Int × Bool × V)) (W : World) (e : Ending) (w' : World) : Prop := ∃ (a : Option Addr) (fs : List Fd), e = .returned (.tuple #[.slice a n n, .bool true]) ∧
  Hid ((fs.map Fd.m = ms ∧ fs.length = n) ∧ (0 < n → ∃ b, a = some ⟨b, 0, none⟩ ∧ W.heap.size ≤ b ∧ b < w'.heap.size ∧ FRow w' b fs)) ∧ Below W.heap.size W w'
theorem FieldsLike.post {n : Nat} {ms : List (Int × Bool × V)} {W w' : World} {e : Ending} (h : FieldsLike n ms W e w') : FieldsPost n (ms.map fun m => m.2.2) W e w' := by
  obtain ⟨a, fs, h1, h2, h3⟩ := h
  refine ⟨a, fs, h1, ⟨⟨?_, h2.out.1.2⟩, h2.out.2⟩, h3⟩
  rw [← h2.out.1.1, List.map_map]
  rfl
theorem put5_hp (w : World) (b o b' : Nat) (y : V) (h : b' ≠ b) : (put5 w b o y).heap[b']? = w.heap[b']? := by
  rw [← put5_eq, Below.heap_setCell _ _ _ _ (by exact h), Below.heap_setCell _ _ _ _ (by exact h), Below.heap_setCell _ _ _ _ (by exact h), Below.heap_setCell _ _ _ _ (by exact h), Below.heap_setCell _ _ _ _ (by exact h)]
theorem RowF.snoc {w : World} {b m i : Nat} {g : Nat → V} {t : TypeId} {y : V} (hk : Blk w b t m) (h : RowF w b i g) (hm : i * 5 + 5 ≤ m) (hy : g i = y) : RowF (put5 w b (i * 5) y) b (i + 1) g := by
  intro j hj q hq
  by_cases e : j = i
  · subst e
    rw [hy]
    exact put5_cell hk (by omega) q hq
  · rw [← h j (by omega) q hq]
    refine World.cell?_setCells_out b (words y) _ w _ (fun _ _ => ?_)
    simp only [words, List.length_cons, List.length_nil]
    omega
set_option maxRecDepth 100000 in
set_option maxHeartbeats 20000000 in
theorem packed_gen (kind : Int) (hk0 : 0 ≤ kind) (hk1 : kind ≤ 9223372036854775807) (l ys : List V) (ms : List (Int × Bool × V)) (hd : ms.length = l.length) (hy : ys.length = l.length) (b c : Nat) (h0 : 0 < l.length) (hc : l.length ≤ c) (hcc : l.length ≤ 1000) (w : World) (hlt : b < w.heap.size) (hr : Row w b 0 l)
    (hls : ∀ x ∈ ys, Lies w.heap.size w x) (hds : ∀ d ∈ ms.map (fun m => m.2.2), ∀ n₀ W, Lies n₀ W d)
    (hF : ∀ W, Below w.heap.size w W → Calls Tryz.prog 8 #[.int .i64 kind] W (FieldsLike l.length ms W))
    (hC : ∀ i (h1 : i < l.length) (h2 : i < ms.length) (h3 : i < ys.length), ∀ F : Fd, F.m = ms[i] → ∀ W, Below w.heap.size w W → Calls Tryz.prog 98 #[F.val, l[i].val] W fun e w' => e = VN ys[i] 0 ∧ Below W.heap.size W w')
    (hdp : ∀ a2 a3 c2 c3, mx ((V.of 24 0 ⟨#[]⟩ a2 c2 0 [leaf 5 kind ⟨#[]⟩, .of 21 0 ⟨#[]⟩ a3 c3 0 ((outs ys (ms.map fun m => m.2.2)).take (saidN ys (ms.map fun m => m.2.2) ys.length))]).all 1) ≤ 32) :
    Calls Tryz.prog 35 #[.agg #[.int .i64 kind, .slice (some ⟨b, 0, none⟩) l.length c]] w (fun e w' => ∃ v : V, e = VN v 0 ∧ Hid ((∃ a2 a3 c2 c3, v = .of 24 0 ⟨#[]⟩ a2 c2 0 [leaf 5 kind ⟨#[]⟩, .of 21 0 ⟨#[]⟩ a3 c3 0 ((outs ys (ms.map fun m => m.2.2)).take (saidN ys (ms.map fun m => m.2.2) ys.length))]) ∧ Lies w'.heap.size w' v) ∧ Below w.heap.size w w') := by
  obtain ⟨W0, hW0⟩ : ∃ W0, (w.alloc (Obj.cells #[.int .i64 kind, .slice (some ⟨b, 0, none⟩) l.length c] 33)).alloc (Obj.cells #[.int .i64 0, .int .u64 0, .string ⟨#[]⟩, .slice none 0 0, .int .i64 0] 42) = W0 := ⟨_, rfl⟩
  have hs0 : W0.heap.size = w.heap.size + 2 := by rw [← hW0]; simp
  have hb0 : Below w.heap.size w W0 := by rw [← hW0]; exact bel2 (Below.refl _ _) (Nat.le_refl _) _ _
  have xr : BoxR W0 w.heap.size kind (some ⟨b, 0, none⟩) l.length c := by rw [← hW0]; exact heap_past (World.alloc_heap_new _ _) _
  have xz : BoxV W0 (w.heap.size + 1) (.of 0 0 ⟨#[]⟩ none 0 0 []) := by
    rw [← hW0]
    unfold BoxV
    rw [V.k_of, V.n_of, V.s_of, V.a_of, V.l_of, V.c_of, V.e_of]
    exact heap_at1 _ _ _
  have HF := hide hF
  have HC := hide hC
  have HR := hide hr
  have HLS := hide hls
  have HDS := hide hds
  have HDP := hide hdp
  have HD := hide hd
  have HY := hide hy
  have HW0 := hide hW0
  clear hW0 hF hr hls hds hdp hd hy hC
  go_enter Tryz.func35, Tryz.ntmps35
  go_wp2_with fail
  rw [HW0.out]
  clear HW0
  refine (HF.out _ hb0).mono ?_
  rintro e1 w1 ⟨af, fs, rfl, HFS, hb1⟩
  have hs1 := hb1.size
  have hbw1 : Below w.heap.size w w1 := belOn hb0 (by omega) hb1
  obtain ⟨⟨hfd, hfl⟩, hff⟩ := HFS.out
  obtain ⟨bf, rfl, hbf1, hbf2, hfr⟩ := hff h0
  have HFR := hide hfr
  have HFD := hide hfd
  have HFL := hide hfl
  clear hfr hff hfd hfl HFS
  have hmk := run_makeV l.length l.length (Nat.le_refl _) (by omega)
  obtain ⟨r0, r1⟩ := (xr.below hb1 (by omega)).cells
  have hw0 : w.heap.size < w1.heap.size := by omega
  have hmx : Tryz.prog.follows .mixedOrders = true := by kernel_rfl
  go_wp2
  go_region
  · obtain ⟨W1, hW1⟩ : ∃ W1, ((w1.alloc (Obj.cells (madeCells zeroV (l.length * 5)) 42)).alloc (Obj.cells #[.int .i64 kind, .slice (some ⟨w1.heap.size, 0, none⟩) l.length l.length] 33)).drew = W1 := ⟨_, rfl⟩
    have hsW1 : W1.heap.size = w1.heap.size + 2 := by rw [← hW1]; show (World.alloc (World.alloc w1 _) _).heap.size = _; simp
    have hb11 : Below w1.heap.size w1 W1 := by rw [← hW1]; exact (bel2 (Below.refl _ _) (Nat.le_refl _) _ _).drew
    have hk1' : Blk W1 w1.heap.size 42 (l.length * 5) := by
      have : Blk (w1.alloc (Obj.cells (madeCells zeroV (l.length * 5)) 42)) w1.heap.size 42 (l.length * 5) := Blk.made _ _ _ _
      rw [← hW1]
      exact this.below (bel1 (Below.refl _ _) (Nat.le_refl _) _).drew (by simp)
    have hxf1 : BoxR W1 (w1.heap.size + 1) kind (some ⟨w1.heap.size, 0, none⟩) l.length l.length := by rw [← hW1]; exact heap_at1 _ _ _
    have hfr1 : FRow W1 bf fs := HFR.out.below hb11 hbf2
    have hb01 : Below W0.heap.size W0 W1 := belOn hb1 hs1 hb11
    rw [hW1]
    have HFR1 := hide hfr1
    have HK1 := hide hk1'
    have HXF1 := hide hxf1
    clear hW1 hmk hfr1 hk1' hxf1 r0 r1
    go_wp2
    go_loopw [35] (fun u wr => ∃ (i : Nat), u = .int .i64 i ∧ i ≤ l.length ∧ Below W0.heap.size W0 wr ∧ W1.heap.size ≤ wr.heap.size ∧ Hid (FRow wr bf fs) ∧ Hid (BoxR wr (w1.heap.size + 1) kind (some ⟨w1.heap.size, 0, none⟩) l.length l.length) ∧ Hid (Blk wr w1.heap.size 42 (l.length * 5)) ∧ Hid (RowF wr w1.heap.size i (fun j => (ys[j]?).getD (leaf 0 0 ⟨#[]⟩)))) (fun u _ => l.length + 1 - (intOf u).toNat)
    case atStart => exact ⟨0, rfl, Nat.zero_le _, hb01, Nat.le_refl _, HFR1, HXF1, HK1, fun j hj => absurd hj (by omega)⟩
    case round =>
      obtain ⟨i, rfl, hi, hb, hsz, HFRr, HXFr, HKr, HRFr⟩ := hrel
      have hsb := hb.size
      have hbw : Below w.heap.size w wr := belOn hb0 (by omega) hb
      by_cases hil : i < l.length
      · have hfi : i < fs.length := by rw [HFL.out]; exact hil
        have hdi : i < ms.length := by rw [HD.out]; exact hil
        have hyi : i < ys.length := by rw [HY.out]; exact hil
        have hF0 : (fs[i]'hfi).m = ms[i]'hdi := by
          have h1 : (fs.map Fd.m)[i]? = ms[i]? := by rw [HFD.out]
          rw [List.getElem?_map, List.getElem?_eq_getElem hfi, List.getElem?_eq_getElem hdi] at h1
          exact Option.some.inj h1
        obtain ⟨c0, c1, c2, c3, c4, c5, c6, c7, c8⟩ := HFRr.out.cells i hfi
        generalize (fs[i]'hfi) = F at c0 c1 c2 c3 c4 c5 c6 c7 c8 hF0
        obtain ⟨WR, hWR⟩ : ∃ WR, wr.alloc (.cells F.cs 66) = WR := ⟨_, rfl⟩
        have hsR : WR.heap.size = wr.heap.size + 1 := by rw [← hWR]; simp
        have hbR : Below w.heap.size w WR := by rw [← hWR]; exact bel1 hbw (by omega) _
        have hbR0 : Below W0.heap.size W0 WR := by rw [← hWR]; exact bel1 hb (by omega) _
        have hbRr : Below wr.heap.size wr WR := by rw [← hWR]; exact bel1 (Below.refl _ _) (Nat.le_refl _) _
        have xF : BoxF WR wr.heap.size F := by rw [← hWR]; exact World.alloc_heap_new _ _
        have HS : Hid (∀ W', Below WR.heap.size WR W' → (fun W' => W'.cell? ⟨w.heap.size, 1, none⟩ = some (.slice (some ⟨b, 0, none⟩) l.length c) ∧ W'.cell? ⟨(w1.heap.size + 1), 1, none⟩ = some (.slice (some ⟨w1.heap.size, 0, none⟩) l.length l.length) ∧ W'.cell? ⟨b, i * 5, none⟩ = some (.int .i64 l[i].k) ∧ W'.cell? ⟨b, i * 5 + 1, none⟩ = some (.int .u64 l[i].n) ∧ W'.cell? ⟨b, i * 5 + 2, none⟩ = some (.string l[i].s) ∧ W'.cell? ⟨b, i * 5 + 3, none⟩ = some (.slice l[i].a l[i].l.length l[i].c) ∧ W'.cell? ⟨b, i * 5 + 4, none⟩ = some (.int .i64 l[i].e) ∧ W'.cell? ⟨wr.heap.size, 0, none⟩ = some (.string F.name) ∧ W'.cell? ⟨wr.heap.size, 1, none⟩ = some (.int .i64 F.ty) ∧ W'.cell? ⟨wr.heap.size, 2, none⟩ = some (.slice F.ka F.kl F.kc) ∧ W'.cell? ⟨wr.heap.size, 3, none⟩ = some (.bool F.must) ∧ W'.cell? ⟨wr.heap.size, 4, none⟩ = some (.int .i64 F.d.k) ∧ W'.cell? ⟨wr.heap.size, 5, none⟩ = some (.int .u64 F.d.n) ∧ W'.cell? ⟨wr.heap.size, 6, none⟩ = some (.string F.d.s) ∧ W'.cell? ⟨wr.heap.size, 7, none⟩ = some (.slice F.d.a F.d.l.length F.d.c) ∧ W'.cell? ⟨wr.heap.size, 8, none⟩ = some (.int .i64 F.d.e)) W') := by
          intro W' hb'
          have hbW := belOn hbR (by omega) hb'
          have hbW0 := belOn hbR0 (by omega) hb'
          have hbWr := belOn hbRr (by omega) hb'
          obtain ⟨q0, q1, q2, q3, q4⟩ := (HR.out.below hbW hlt) i hil
          simp only [Nat.zero_add] at q0 q1 q2 q3 q4
          obtain ⟨g0, g1, g2, g3, g4, g5, g6, g7, g8⟩ := (xF.below hb' (by omega)).cells
          exact ⟨(xr.below hbW0 (by omega)).cells.2, (HXFr.out.below hbWr (by omega)).cells.2, q0, q1, q2, q3, q4, g0, g1, g2, g3, g4, g5, g6, g7, g8⟩
        have HSP : Hid (∀ W', Below WR.heap.size WR W' → ∀ y, (fun W' => W'.cell? ⟨w.heap.size, 1, none⟩ = some (.slice (some ⟨b, 0, none⟩) l.length c) ∧ W'.cell? ⟨(w1.heap.size + 1), 1, none⟩ = some (.slice (some ⟨w1.heap.size, 0, none⟩) l.length l.length) ∧ W'.cell? ⟨b, i * 5, none⟩ = some (.int .i64 l[i].k) ∧ W'.cell? ⟨b, i * 5 + 1, none⟩ = some (.int .u64 l[i].n) ∧ W'.cell? ⟨b, i * 5 + 2, none⟩ = some (.string l[i].s) ∧ W'.cell? ⟨b, i * 5 + 3, none⟩ = some (.slice l[i].a l[i].l.length l[i].c) ∧ W'.cell? ⟨b, i * 5 + 4, none⟩ = some (.int .i64 l[i].e) ∧ W'.cell? ⟨wr.heap.size, 0, none⟩ = some (.string F.name) ∧ W'.cell? ⟨wr.heap.size, 1, none⟩ = some (.int .i64 F.ty) ∧ W'.cell? ⟨wr.heap.size, 2, none⟩ = some (.slice F.ka F.kl F.kc) ∧ W'.cell? ⟨wr.heap.size, 3, none⟩ = some (.bool F.must) ∧ W'.cell? ⟨wr.heap.size, 4, none⟩ = some (.int .i64 F.d.k) ∧ W'.cell? ⟨wr.heap.size, 5, none⟩ = some (.int .u64 F.d.n) ∧ W'.cell? ⟨wr.heap.size, 6, none⟩ = some (.string F.d.s) ∧ W'.cell? ⟨wr.heap.size, 7, none⟩ = some (.slice F.d.a F.d.l.length F.d.c) ∧ W'.cell? ⟨wr.heap.size, 8, none⟩ = some (.int .i64 F.d.e)) (put5 W' w1.heap.size (i * 5) y)) := by
          intro W' hb' y
          have h := HS.out W' hb'
          have e : ∀ b' o', b' ≠ w1.heap.size → (put5 W' w1.heap.size (i * 5) y).cell? ⟨b', o', none⟩ = W'.cell? ⟨b', o', none⟩ := fun b' o' hne => put5_same _ _ _ _ _ hne o'
          simp only [e w.heap.size _ (by omega), e (w1.heap.size + 1) _ (by omega), e b _ (by omega), e wr.heap.size _ (by omega)]
          exact h
        simp only [← put5_eq] at HSP
        have HB0 : Hid (Below WR.heap.size WR WR.drew) := (Below.refl _ _).drew
        have he := HC.out i hil hdi hyi F hF0 WR.drew hbR.drew
        rw [Fd.val_eq, V.val_eq] at he
        unfold VN at he
        have HE := hide he
        have HWR := hide hWR
        unfold Fd.cs at HWR
        have hbfr : bf < wr.heap.size := by omega
        have HZ : Hid (∀ W', Below WR.heap.size WR W' → Blk W' w1.heap.size 42 (l.length * 5)) := fun W' hb' => (HKr.out.below hbRr (by omega)).below hb' (by omega)
        clear he hWR hF0
        go_wp2_with fail
        rw [HWR.out]
        go_region_held (fun W' => W'.cell? ⟨w.heap.size, 1, none⟩ = some (.slice (some ⟨b, 0, none⟩) l.length c) ∧ W'.cell? ⟨(w1.heap.size + 1), 1, none⟩ = some (.slice (some ⟨w1.heap.size, 0, none⟩) l.length l.length) ∧ W'.cell? ⟨b, i * 5, none⟩ = some (.int .i64 l[i].k) ∧ W'.cell? ⟨b, i * 5 + 1, none⟩ = some (.int .u64 l[i].n) ∧ W'.cell? ⟨b, i * 5 + 2, none⟩ = some (.string l[i].s) ∧ W'.cell? ⟨b, i * 5 + 3, none⟩ = some (.slice l[i].a l[i].l.length l[i].c) ∧ W'.cell? ⟨b, i * 5 + 4, none⟩ = some (.int .i64 l[i].e) ∧ W'.cell? ⟨wr.heap.size, 0, none⟩ = some (.string F.name) ∧ W'.cell? ⟨wr.heap.size, 1, none⟩ = some (.int .i64 F.ty) ∧ W'.cell? ⟨wr.heap.size, 2, none⟩ = some (.slice F.ka F.kl F.kc) ∧ W'.cell? ⟨wr.heap.size, 3, none⟩ = some (.bool F.must) ∧ W'.cell? ⟨wr.heap.size, 4, none⟩ = some (.int .i64 F.d.k) ∧ W'.cell? ⟨wr.heap.size, 5, none⟩ = some (.int .u64 F.d.n) ∧ W'.cell? ⟨wr.heap.size, 6, none⟩ = some (.string F.d.s) ∧ W'.cell? ⟨wr.heap.size, 7, none⟩ = some (.slice F.d.a F.d.l.length F.d.c) ∧ W'.cell? ⟨wr.heap.size, 8, none⟩ = some (.int .i64 F.d.e)) (first | with_reducible exact HS.out _ HB0.out | with_reducible exact HS.out _ HB2.out | with_reducible exact HSP.out _ HB2.out _) ((go_at_call 98; refine Calls.mono HE.out ?_; rintro e2 w2 ⟨rfl, hb2⟩; have HB2 : Hid (Below WR.heap.size WR w2) := belOn HB0.out HB0.out.size hb2; clear hb2; have hs2 := HB2.out.size; have hk2 := HZ.out _ HB2.out; obtain ⟨z0, y0⟩ := hk2.some (i * 5) (by omega); obtain ⟨z1, y1⟩ := hk2.some (i * 5 + 1) (by omega); obtain ⟨z2, y2⟩ := hk2.some (i * 5 + 2) (by omega); obtain ⟨z3, y3⟩ := hk2.some (i * 5 + 3) (by omega); obtain ⟨z4, y4⟩ := hk2.some (i * 5 + 4) (by omega); have fz := hk2.free; have hlw : w1.heap.size < w2.heap.size := (by omega); have HK2 := hide hk2; clear hk2))
        all_goals
          have hbr2 : Below wr.heap.size wr w2 := belOn hbRr (by omega) HB2.out
          have hb02 : Below W0.heap.size W0 w2 := belOn hbR0 (by omega) HB2.out
          go_wp2
          go_roundw
          case rel =>
            have hpb := put5_below (y := ys[i]) (o := i * 5) (b := w1.heap.size) hb02 (by omega)
            have hpk := put5_blk HK2.out (i * 5) ys[i]
            have hpr := RowF.snoc (y := ys[i]) (g := fun j => (ys[j]?).getD (leaf 0 0 ⟨#[]⟩)) HK2.out (HRFr.out.below hbr2 (by omega)) (by omega) (by simp [hyi])
            have hpf : FRow (put5 w2 w1.heap.size (i * 5) ys[i]) bf fs := fun q hq j hj => (put5_same _ _ _ _ _ (by omega) _).trans ((HFRr.out.below hbr2 hbfr) q hq j hj)
            have hpx : BoxR (put5 w2 w1.heap.size (i * 5) ys[i]) (w1.heap.size + 1) kind (some ⟨w1.heap.size, 0, none⟩) l.length l.length := (put5_hp _ _ _ _ _ (by omega)).trans (HXFr.out.below hbr2 (by omega))
            have hps := put5_size w2 w1.heap.size (i * 5) ys[i]
            rw [← put5_eq] at hpb hpk hpr hpf hpx hps
            exact ⟨i + 1, by go_num, by omega, hpb, by omega, hpf, hpx, hpk, hpr⟩
          case measure => simp [intOf]; omega
      · have hie : i = l.length := by omega
        subst hie
        have hrow : Row wr w1.heap.size 0 ys := HRFr.out.row ys (by rw [HY.out]; exact Nat.le_refl _) (fun j hj => by simp [hj])
        have hlaid := laid_gen w.heap.size kind hk0 hk1 ys (ms.map fun m => m.2.2) (by rw [List.length_map, HD.out, HY.out]) w1.heap.size l.length (by rw [HY.out]; exact h0) (by rw [HY.out]; exact Nat.le_refl _) (by rw [HY.out]; exact hcc) wr hbw.size (by omega) hrow (fun x hx => (HLS.out x hx).keep hbw (Nat.le_refl _)) (fun d hd W => HDS.out d hd _ W) (fun W hW => by rw [HY.out]; exact (HF.out W (belOn hbw hbw.size hW)).mono (fun e w' h => h.post))
        rw [HY.out] at hlaid
        have HLD := hide hlaid
        obtain ⟨x0, x1⟩ := HXFr.out.cells
        have hfw : (w1.heap.size + 1) < wr.heap.size := by omega
        clear hlaid hrow
        go_wp2_with fail
        refine HLD.out.mono ?_
        rintro e3 w3 ⟨a2, a3, c2, c3, rfl, HLV, hb3⟩
        have hs3 := hb3.size
        have hb03 : Below W0.heap.size W0 w3 := belOn hb hsb hb3
        have hbw3 : Below w.heap.size w w3 := belOn hb0 (by omega) hb03
        have hdp1 := HDP.out a2 a3 c2 c3
        generalize hv : V.of 24 0 ⟨#[]⟩ a2 c2 0 [leaf 5 kind ⟨#[]⟩, .of 21 0 ⟨#[]⟩ a3 c3 0 ((outs ys (ms.map fun m => m.2.2)).take (saidN ys (ms.map fun m => m.2.2) ys.length))] = v at HLV hdp1
        have hvv : v.val = .agg #[.int .i64 24, .int .u64 0, .string ⟨#[]⟩, .slice a2 2 c2, .int .i64 0] := by rw [← hv, V.val_of]; rfl
        obtain ⟨W3, hW3⟩ : ∃ W3, w3.alloc (Obj.cells #[.int .i64 24, .int .u64 0, .string ⟨#[]⟩, .slice a2 2 c2, .int .i64 0] 42) = W3 := ⟨_, rfl⟩
        have hsW3 : W3.heap.size = w3.heap.size + 1 := by rw [← hW3]; simp
        have hb33 : Below w3.heap.size w3 W3 := by rw [← hW3]; exact bel1 (Below.refl _ _) (Nat.le_refl _) _
        have hx3 : W3.heap[w3.heap.size]? = some (.cells #[.int .i64 24, .int .u64 0, .string ⟨#[]⟩, .slice a2 2 c2, .int .i64 0] 42 (0, 0)) := by rw [← hW3]; exact World.alloc_heap_new _ _
        have hdep := depth_any v w3.heap.size W3 (by omega) (LiesIn.keep HLV.out (fun b hq o => hb33.cell (p := ⟨b, o, none⟩) (by show b < _; omega)) (fun b hq => by omega))
        rw [hvv] at hdep
        generalize mx (v.all 1) = dpt at hdep hdp1
        have HDE := hide hdep
        have HW3 := hide hW3
        have HV := hide hv
        clear hdep hW3 hv
        go_wp2_with fail
        rw [HW3.out]
        refine HDE.out.mono ?_
        rintro e4 w4 ⟨rfl, hb4⟩
        have hs4 := hb4.size
        have hb34 : Below w3.heap.size w3 w4 := hb33.trans (hb4.mono (by omega))
        have hb04 : Below W0.heap.size W0 w4 := belOn hb03 (by omega) hb34
        have hbw4 : Below w.heap.size w w4 := belOn hb0 (by omega) hb04
        have xz1 := xz.below hb04 (by omega)
        obtain ⟨z0, z1, z2, z3, z4⟩ := xz1.cells
        have fz := (show Blk w4 (w.heap.size + 1) 42 5 from ⟨_, xz1, rfl⟩).free
        have hx4 := (hb4.block w3.heap.size (by omega)).trans hx3
        have o0 : w4.cell? ⟨w3.heap.size, 0, none⟩ = some (.int .i64 24) := by unfold World.cell?; simp only [hx4]; rfl
        have o1 : w4.cell? ⟨w3.heap.size, 1, none⟩ = some (.int .u64 0) := by unfold World.cell?; simp only [hx4]; rfl
        have o2 : w4.cell? ⟨w3.heap.size, 2, none⟩ = some (.string ⟨#[]⟩) := by unfold World.cell?; simp only [hx4]; rfl
        have o3 : w4.cell? ⟨w3.heap.size, 3, none⟩ = some (.slice a2 2 c2) := by unfold World.cell?; simp only [hx4]; rfl
        have o4 : w4.cell? ⟨w3.heap.size, 4, none⟩ = some (.int .i64 0) := by unfold World.cell?; simp only [hx4]; rfl
        have hgt : ¬ (32 < dpt) := by omega
        have hz5 : w.heap.size + 1 < w4.heap.size := by omega
        have hz6 : w3.heap.size < w4.heap.size := by omega
        clear xz1 hx4 hx3
        obtain ⟨P, hPe⟩ : ∃ P, put5 w4 (w.heap.size + 1) 0 (.of 24 0 ⟨#[]⟩ a2 c2 0 [leaf 0 0 ⟨#[]⟩, leaf 0 0 ⟨#[]⟩]) = P := ⟨_, rfl⟩
        have hPs : P.heap.size = w4.heap.size := by rw [← hPe]; exact put5_size _ _ _ _
        have hPb : Below w.heap.size w P := by rw [← hPe]; exact put5_below hbw4 (by omega)
        have hPm : ∀ b', b' ≠ w.heap.size + 1 → Same w4 P b' := fun b' hb' => by rw [← hPe]; exact put5_same _ _ _ _ _ hb'
        have hq0 : ∀ q, q < 5 → P.cell? ⟨w.heap.size + 1, q, none⟩ = (words (.of 24 0 ⟨#[]⟩ a2 c2 0 [leaf 0 0 ⟨#[]⟩, leaf 0 0 ⟨#[]⟩]))[q]? := fun q hq => by
          have := put5_cell (w := w4) (b := w.heap.size + 1) (o := 0) (y := .of 24 0 ⟨#[]⟩ a2 c2 0 [leaf 0 0 ⟨#[]⟩, leaf 0 0 ⟨#[]⟩]) (t := 42) (m := 5) ⟨_, xz.below hb04 (by omega), rfl⟩ (by omega) q hq
          rw [Nat.zero_add] at this
          rw [← hPe]
          exact this
        rw [← put5_of] at hPe
        have hPe' : ((((w4.setCell ⟨w.heap.size + 1, 0, none⟩ (.int .i64 24)).setCell ⟨w.heap.size + 1, 1, none⟩ (.int .u64 0)).setCell ⟨w.heap.size + 1, 2, none⟩ (.string ⟨#[]⟩)).setCell ⟨w.heap.size + 1, 3, none⟩ (.slice a2 2 c2)).setCell ⟨w.heap.size + 1, 4, none⟩ (.int .i64 0) = P := hPe
        have HPE := hide hPe'
        have HPM := hide hPm
        have HQ0 := hide hq0
        clear hPe hPe' hPm hq0
        go_wp2
        rw [HPE.out]
        have j0 : P.cell? ⟨w.heap.size + 1, 0, none⟩ = some (.int .i64 24) := HQ0.out 0 (by omega)
        have j1 : P.cell? ⟨w.heap.size + 1, 1, none⟩ = some (.int .u64 0) := HQ0.out 1 (by omega)
        have j2 : P.cell? ⟨w.heap.size + 1, 2, none⟩ = some (.string ⟨#[]⟩) := HQ0.out 2 (by omega)
        have j3 : P.cell? ⟨w.heap.size + 1, 3, none⟩ = some (.slice a2 2 c2) := HQ0.out 3 (by omega)
        have j4 : P.cell? ⟨w.heap.size + 1, 4, none⟩ = some (.int .i64 0) := HQ0.out 4 (by omega)
        refine bodyPost_ret (v := .tuple #[.agg #[.int .i64 24, .int .u64 0, .string ⟨#[]⟩, .slice a2 2 c2, .int .i64 0], .int .i64 0]) (by simp [results, Tryz.results35, go_sem, j0, j1, j2, j3, j4]) rfl ⟨v, ?_, ⟨⟨a2, a3, c2, c3, HV.out.symm⟩, ?_⟩, hPb⟩
        · show _ = Ending.returned (.tuple #[v.val, .int .i64 0])
          rw [hvv]
        · exact LiesIn.keep HLV.out (fun b' hq o => (HPM.out b' (by omega) o).trans (hb34.cell (p := ⟨b', o, none⟩) (by show b' < _; omega))) (fun b' hq => by omega)
  · obtain ⟨W1, hW1⟩ : ∃ W1, ((w1.alloc (Obj.cells #[.int .i64 kind, .slice (some ⟨w1.heap.size + 1, 0, none⟩) l.length l.length] 33)).alloc (Obj.cells (madeCells zeroV (l.length * 5)) 42)).drew = W1 := ⟨_, rfl⟩
    have hsW1 : W1.heap.size = w1.heap.size + 2 := by rw [← hW1]; show (World.alloc (World.alloc w1 _) _).heap.size = _; simp
    have hb11 : Below w1.heap.size w1 W1 := by rw [← hW1]; exact (bel2 (Below.refl _ _) (Nat.le_refl _) _ _).drew
    have hk1' : Blk W1 (w1.heap.size + 1) 42 (l.length * 5) := by
      have : Blk ((w1.alloc (Obj.cells #[.int .i64 kind, .slice (some ⟨w1.heap.size + 1, 0, none⟩) l.length l.length] 33)).alloc (Obj.cells (madeCells zeroV (l.length * 5)) 42)) (w1.alloc (Obj.cells #[.int .i64 kind, .slice (some ⟨w1.heap.size + 1, 0, none⟩) l.length l.length] 33)).heap.size 42 (l.length * 5) := Blk.made _ _ _ _
      rw [← hW1]
      rw [World.size_alloc] at this
      exact this
    have hxf1 : BoxR W1 w1.heap.size kind (some ⟨w1.heap.size + 1, 0, none⟩) l.length l.length := by rw [← hW1]; exact heap_past (World.alloc_heap_new _ _) _
    have hfr1 : FRow W1 bf fs := HFR.out.below hb11 hbf2
    have hb01 : Below W0.heap.size W0 W1 := belOn hb1 hs1 hb11
    rw [hW1]
    have HFR1 := hide hfr1
    have HK1 := hide hk1'
    have HXF1 := hide hxf1
    clear hW1 hmk hfr1 hk1' hxf1 r0 r1
    go_wp2
    go_loopw [35] (fun u wr => ∃ (i : Nat), u = .int .i64 i ∧ i ≤ l.length ∧ Below W0.heap.size W0 wr ∧ W1.heap.size ≤ wr.heap.size ∧ Hid (FRow wr bf fs) ∧ Hid (BoxR wr w1.heap.size kind (some ⟨(w1.heap.size + 1), 0, none⟩) l.length l.length) ∧ Hid (Blk wr (w1.heap.size + 1) 42 (l.length * 5)) ∧ Hid (RowF wr (w1.heap.size + 1) i (fun j => (ys[j]?).getD (leaf 0 0 ⟨#[]⟩)))) (fun u _ => l.length + 1 - (intOf u).toNat)
    case atStart => exact ⟨0, rfl, Nat.zero_le _, hb01, Nat.le_refl _, HFR1, HXF1, HK1, fun j hj => absurd hj (by omega)⟩
    case round =>
      obtain ⟨i, rfl, hi, hb, hsz, HFRr, HXFr, HKr, HRFr⟩ := hrel
      have hsb := hb.size
      have hbw : Below w.heap.size w wr := belOn hb0 (by omega) hb
      by_cases hil : i < l.length
      · have hfi : i < fs.length := by rw [HFL.out]; exact hil
        have hdi : i < ms.length := by rw [HD.out]; exact hil
        have hyi : i < ys.length := by rw [HY.out]; exact hil
        have hF0 : (fs[i]'hfi).m = ms[i]'hdi := by
          have h1 : (fs.map Fd.m)[i]? = ms[i]? := by rw [HFD.out]
          rw [List.getElem?_map, List.getElem?_eq_getElem hfi, List.getElem?_eq_getElem hdi] at h1
          exact Option.some.inj h1
        obtain ⟨c0, c1, c2, c3, c4, c5, c6, c7, c8⟩ := HFRr.out.cells i hfi
        generalize (fs[i]'hfi) = F at c0 c1 c2 c3 c4 c5 c6 c7 c8 hF0
        obtain ⟨WR, hWR⟩ : ∃ WR, wr.alloc (.cells F.cs 66) = WR := ⟨_, rfl⟩
        have hsR : WR.heap.size = wr.heap.size + 1 := by rw [← hWR]; simp
        have hbR : Below w.heap.size w WR := by rw [← hWR]; exact bel1 hbw (by omega) _
        have hbR0 : Below W0.heap.size W0 WR := by rw [← hWR]; exact bel1 hb (by omega) _
        have hbRr : Below wr.heap.size wr WR := by rw [← hWR]; exact bel1 (Below.refl _ _) (Nat.le_refl _) _
        have xF : BoxF WR wr.heap.size F := by rw [← hWR]; exact World.alloc_heap_new _ _
        have HS : Hid (∀ W', Below WR.heap.size WR W' → (fun W' => W'.cell? ⟨w.heap.size, 1, none⟩ = some (.slice (some ⟨b, 0, none⟩) l.length c) ∧ W'.cell? ⟨w1.heap.size, 1, none⟩ = some (.slice (some ⟨(w1.heap.size + 1), 0, none⟩) l.length l.length) ∧ W'.cell? ⟨b, i * 5, none⟩ = some (.int .i64 l[i].k) ∧ W'.cell? ⟨b, i * 5 + 1, none⟩ = some (.int .u64 l[i].n) ∧ W'.cell? ⟨b, i * 5 + 2, none⟩ = some (.string l[i].s) ∧ W'.cell? ⟨b, i * 5 + 3, none⟩ = some (.slice l[i].a l[i].l.length l[i].c) ∧ W'.cell? ⟨b, i * 5 + 4, none⟩ = some (.int .i64 l[i].e) ∧ W'.cell? ⟨wr.heap.size, 0, none⟩ = some (.string F.name) ∧ W'.cell? ⟨wr.heap.size, 1, none⟩ = some (.int .i64 F.ty) ∧ W'.cell? ⟨wr.heap.size, 2, none⟩ = some (.slice F.ka F.kl F.kc) ∧ W'.cell? ⟨wr.heap.size, 3, none⟩ = some (.bool F.must) ∧ W'.cell? ⟨wr.heap.size, 4, none⟩ = some (.int .i64 F.d.k) ∧ W'.cell? ⟨wr.heap.size, 5, none⟩ = some (.int .u64 F.d.n) ∧ W'.cell? ⟨wr.heap.size, 6, none⟩ = some (.string F.d.s) ∧ W'.cell? ⟨wr.heap.size, 7, none⟩ = some (.slice F.d.a F.d.l.length F.d.c) ∧ W'.cell? ⟨wr.heap.size, 8, none⟩ = some (.int .i64 F.d.e)) W') := by
          intro W' hb'
          have hbW := belOn hbR (by omega) hb'
          have hbW0 := belOn hbR0 (by omega) hb'
          have hbWr := belOn hbRr (by omega) hb'
          obtain ⟨q0, q1, q2, q3, q4⟩ := (HR.out.below hbW hlt) i hil
          simp only [Nat.zero_add] at q0 q1 q2 q3 q4
          obtain ⟨g0, g1, g2, g3, g4, g5, g6, g7, g8⟩ := (xF.below hb' (by omega)).cells
          exact ⟨(xr.below hbW0 (by omega)).cells.2, (HXFr.out.below hbWr (by omega)).cells.2, q0, q1, q2, q3, q4, g0, g1, g2, g3, g4, g5, g6, g7, g8⟩
        have HSP : Hid (∀ W', Below WR.heap.size WR W' → ∀ y, (fun W' => W'.cell? ⟨w.heap.size, 1, none⟩ = some (.slice (some ⟨b, 0, none⟩) l.length c) ∧ W'.cell? ⟨w1.heap.size, 1, none⟩ = some (.slice (some ⟨(w1.heap.size + 1), 0, none⟩) l.length l.length) ∧ W'.cell? ⟨b, i * 5, none⟩ = some (.int .i64 l[i].k) ∧ W'.cell? ⟨b, i * 5 + 1, none⟩ = some (.int .u64 l[i].n) ∧ W'.cell? ⟨b, i * 5 + 2, none⟩ = some (.string l[i].s) ∧ W'.cell? ⟨b, i * 5 + 3, none⟩ = some (.slice l[i].a l[i].l.length l[i].c) ∧ W'.cell? ⟨b, i * 5 + 4, none⟩ = some (.int .i64 l[i].e) ∧ W'.cell? ⟨wr.heap.size, 0, none⟩ = some (.string F.name) ∧ W'.cell? ⟨wr.heap.size, 1, none⟩ = some (.int .i64 F.ty) ∧ W'.cell? ⟨wr.heap.size, 2, none⟩ = some (.slice F.ka F.kl F.kc) ∧ W'.cell? ⟨wr.heap.size, 3, none⟩ = some (.bool F.must) ∧ W'.cell? ⟨wr.heap.size, 4, none⟩ = some (.int .i64 F.d.k) ∧ W'.cell? ⟨wr.heap.size, 5, none⟩ = some (.int .u64 F.d.n) ∧ W'.cell? ⟨wr.heap.size, 6, none⟩ = some (.string F.d.s) ∧ W'.cell? ⟨wr.heap.size, 7, none⟩ = some (.slice F.d.a F.d.l.length F.d.c) ∧ W'.cell? ⟨wr.heap.size, 8, none⟩ = some (.int .i64 F.d.e)) (put5 W' (w1.heap.size + 1) (i * 5) y)) := by
          intro W' hb' y
          have h := HS.out W' hb'
          have e : ∀ b' o', b' ≠ (w1.heap.size + 1) → (put5 W' (w1.heap.size + 1) (i * 5) y).cell? ⟨b', o', none⟩ = W'.cell? ⟨b', o', none⟩ := fun b' o' hne => put5_same _ _ _ _ _ hne o'
          simp only [e w.heap.size _ (by omega), e w1.heap.size _ (by omega), e b _ (by omega), e wr.heap.size _ (by omega)]
          exact h
        simp only [← put5_eq] at HSP
        have HB0 : Hid (Below WR.heap.size WR WR.drew) := (Below.refl _ _).drew
        have he := HC.out i hil hdi hyi F hF0 WR.drew hbR.drew
        rw [Fd.val_eq, V.val_eq] at he
        unfold VN at he
        have HE := hide he
        have HWR := hide hWR
        unfold Fd.cs at HWR
        have hbfr : bf < wr.heap.size := by omega
        have HZ : Hid (∀ W', Below WR.heap.size WR W' → Blk W' (w1.heap.size + 1) 42 (l.length * 5)) := fun W' hb' => (HKr.out.below hbRr (by omega)).below hb' (by omega)
        clear he hWR hF0
        go_wp2_with fail
        rw [HWR.out]
        go_region_held (fun W' => W'.cell? ⟨w.heap.size, 1, none⟩ = some (.slice (some ⟨b, 0, none⟩) l.length c) ∧ W'.cell? ⟨w1.heap.size, 1, none⟩ = some (.slice (some ⟨(w1.heap.size + 1), 0, none⟩) l.length l.length) ∧ W'.cell? ⟨b, i * 5, none⟩ = some (.int .i64 l[i].k) ∧ W'.cell? ⟨b, i * 5 + 1, none⟩ = some (.int .u64 l[i].n) ∧ W'.cell? ⟨b, i * 5 + 2, none⟩ = some (.string l[i].s) ∧ W'.cell? ⟨b, i * 5 + 3, none⟩ = some (.slice l[i].a l[i].l.length l[i].c) ∧ W'.cell? ⟨b, i * 5 + 4, none⟩ = some (.int .i64 l[i].e) ∧ W'.cell? ⟨wr.heap.size, 0, none⟩ = some (.string F.name) ∧ W'.cell? ⟨wr.heap.size, 1, none⟩ = some (.int .i64 F.ty) ∧ W'.cell? ⟨wr.heap.size, 2, none⟩ = some (.slice F.ka F.kl F.kc) ∧ W'.cell? ⟨wr.heap.size, 3, none⟩ = some (.bool F.must) ∧ W'.cell? ⟨wr.heap.size, 4, none⟩ = some (.int .i64 F.d.k) ∧ W'.cell? ⟨wr.heap.size, 5, none⟩ = some (.int .u64 F.d.n) ∧ W'.cell? ⟨wr.heap.size, 6, none⟩ = some (.string F.d.s) ∧ W'.cell? ⟨wr.heap.size, 7, none⟩ = some (.slice F.d.a F.d.l.length F.d.c) ∧ W'.cell? ⟨wr.heap.size, 8, none⟩ = some (.int .i64 F.d.e)) (first | with_reducible exact HS.out _ HB0.out | with_reducible exact HS.out _ HB2.out | with_reducible exact HSP.out _ HB2.out _) ((go_at_call 98; refine Calls.mono HE.out ?_; rintro e2 w2 ⟨rfl, hb2⟩; have HB2 : Hid (Below WR.heap.size WR w2) := belOn HB0.out HB0.out.size hb2; clear hb2; have hs2 := HB2.out.size; have hk2 := HZ.out _ HB2.out; obtain ⟨z0, y0⟩ := hk2.some (i * 5) (by omega); obtain ⟨z1, y1⟩ := hk2.some (i * 5 + 1) (by omega); obtain ⟨z2, y2⟩ := hk2.some (i * 5 + 2) (by omega); obtain ⟨z3, y3⟩ := hk2.some (i * 5 + 3) (by omega); obtain ⟨z4, y4⟩ := hk2.some (i * 5 + 4) (by omega); have fz := hk2.free; have hlw : (w1.heap.size + 1) < w2.heap.size := (by omega); have HK2 := hide hk2; clear hk2))
        all_goals
          have hbr2 : Below wr.heap.size wr w2 := belOn hbRr (by omega) HB2.out
          have hb02 : Below W0.heap.size W0 w2 := belOn hbR0 (by omega) HB2.out
          go_wp2
          go_roundw
          case rel =>
            have hpb := put5_below (y := ys[i]) (o := i * 5) (b := (w1.heap.size + 1)) hb02 (by omega)
            have hpk := put5_blk HK2.out (i * 5) ys[i]
            have hpr := RowF.snoc (y := ys[i]) (g := fun j => (ys[j]?).getD (leaf 0 0 ⟨#[]⟩)) HK2.out (HRFr.out.below hbr2 (by omega)) (by omega) (by simp [hyi])
            have hpf : FRow (put5 w2 (w1.heap.size + 1) (i * 5) ys[i]) bf fs := fun q hq j hj => (put5_same _ _ _ _ _ (by omega) _).trans ((HFRr.out.below hbr2 hbfr) q hq j hj)
            have hpx : BoxR (put5 w2 (w1.heap.size + 1) (i * 5) ys[i]) w1.heap.size kind (some ⟨(w1.heap.size + 1), 0, none⟩) l.length l.length := (put5_hp _ _ _ _ _ (by omega)).trans (HXFr.out.below hbr2 (by omega))
            have hps := put5_size w2 (w1.heap.size + 1) (i * 5) ys[i]
            rw [← put5_eq] at hpb hpk hpr hpf hpx hps
            exact ⟨i + 1, by go_num, by omega, hpb, by omega, hpf, hpx, hpk, hpr⟩
          case measure => simp [intOf]; omega
      · have hie : i = l.length := by omega
        subst hie
        have hrow : Row wr (w1.heap.size + 1) 0 ys := HRFr.out.row ys (by rw [HY.out]; exact Nat.le_refl _) (fun j hj => by simp [hj])
        have hlaid := laid_gen w.heap.size kind hk0 hk1 ys (ms.map fun m => m.2.2) (by rw [List.length_map, HD.out, HY.out]) (w1.heap.size + 1) l.length (by rw [HY.out]; exact h0) (by rw [HY.out]; exact Nat.le_refl _) (by rw [HY.out]; exact hcc) wr hbw.size (by omega) hrow (fun x hx => (HLS.out x hx).keep hbw (Nat.le_refl _)) (fun d hd W => HDS.out d hd _ W) (fun W hW => by rw [HY.out]; exact (HF.out W (belOn hbw hbw.size hW)).mono (fun e w' h => h.post))
        rw [HY.out] at hlaid
        have HLD := hide hlaid
        obtain ⟨x0, x1⟩ := HXFr.out.cells
        have hfw : w1.heap.size < wr.heap.size := by omega
        clear hlaid hrow
        go_wp2_with fail
        refine HLD.out.mono ?_
        rintro e3 w3 ⟨a2, a3, c2, c3, rfl, HLV, hb3⟩
        have hs3 := hb3.size
        have hb03 : Below W0.heap.size W0 w3 := belOn hb hsb hb3
        have hbw3 : Below w.heap.size w w3 := belOn hb0 (by omega) hb03
        have hdp1 := HDP.out a2 a3 c2 c3
        generalize hv : V.of 24 0 ⟨#[]⟩ a2 c2 0 [leaf 5 kind ⟨#[]⟩, .of 21 0 ⟨#[]⟩ a3 c3 0 ((outs ys (ms.map fun m => m.2.2)).take (saidN ys (ms.map fun m => m.2.2) ys.length))] = v at HLV hdp1
        have hvv : v.val = .agg #[.int .i64 24, .int .u64 0, .string ⟨#[]⟩, .slice a2 2 c2, .int .i64 0] := by rw [← hv, V.val_of]; rfl
        obtain ⟨W3, hW3⟩ : ∃ W3, w3.alloc (Obj.cells #[.int .i64 24, .int .u64 0, .string ⟨#[]⟩, .slice a2 2 c2, .int .i64 0] 42) = W3 := ⟨_, rfl⟩
        have hsW3 : W3.heap.size = w3.heap.size + 1 := by rw [← hW3]; simp
        have hb33 : Below w3.heap.size w3 W3 := by rw [← hW3]; exact bel1 (Below.refl _ _) (Nat.le_refl _) _
        have hx3 : W3.heap[w3.heap.size]? = some (.cells #[.int .i64 24, .int .u64 0, .string ⟨#[]⟩, .slice a2 2 c2, .int .i64 0] 42 (0, 0)) := by rw [← hW3]; exact World.alloc_heap_new _ _
        have hdep := depth_any v w3.heap.size W3 (by omega) (LiesIn.keep HLV.out (fun b hq o => hb33.cell (p := ⟨b, o, none⟩) (by show b < _; omega)) (fun b hq => by omega))
        rw [hvv] at hdep
        generalize mx (v.all 1) = dpt at hdep hdp1
        have HDE := hide hdep
        have HW3 := hide hW3
        have HV := hide hv
        clear hdep hW3 hv
        go_wp2_with fail
        rw [HW3.out]
        refine HDE.out.mono ?_
        rintro e4 w4 ⟨rfl, hb4⟩
        have hs4 := hb4.size
        have hb34 : Below w3.heap.size w3 w4 := hb33.trans (hb4.mono (by omega))
        have hb04 : Below W0.heap.size W0 w4 := belOn hb03 (by omega) hb34
        have hbw4 : Below w.heap.size w w4 := belOn hb0 (by omega) hb04
        have xz1 := xz.below hb04 (by omega)
        obtain ⟨z0, z1, z2, z3, z4⟩ := xz1.cells
        have fz := (show Blk w4 (w.heap.size + 1) 42 5 from ⟨_, xz1, rfl⟩).free
        have hx4 := (hb4.block w3.heap.size (by omega)).trans hx3
        have o0 : w4.cell? ⟨w3.heap.size, 0, none⟩ = some (.int .i64 24) := by unfold World.cell?; simp only [hx4]; rfl
        have o1 : w4.cell? ⟨w3.heap.size, 1, none⟩ = some (.int .u64 0) := by unfold World.cell?; simp only [hx4]; rfl
        have o2 : w4.cell? ⟨w3.heap.size, 2, none⟩ = some (.string ⟨#[]⟩) := by unfold World.cell?; simp only [hx4]; rfl
        have o3 : w4.cell? ⟨w3.heap.size, 3, none⟩ = some (.slice a2 2 c2) := by unfold World.cell?; simp only [hx4]; rfl
        have o4 : w4.cell? ⟨w3.heap.size, 4, none⟩ = some (.int .i64 0) := by unfold World.cell?; simp only [hx4]; rfl
        have hgt : ¬ (32 < dpt) := by omega
        have hz5 : w.heap.size + 1 < w4.heap.size := by omega
        have hz6 : w3.heap.size < w4.heap.size := by omega
        clear xz1 hx4 hx3
        obtain ⟨P, hPe⟩ : ∃ P, put5 w4 (w.heap.size + 1) 0 (.of 24 0 ⟨#[]⟩ a2 c2 0 [leaf 0 0 ⟨#[]⟩, leaf 0 0 ⟨#[]⟩]) = P := ⟨_, rfl⟩
        have hPs : P.heap.size = w4.heap.size := by rw [← hPe]; exact put5_size _ _ _ _
        have hPb : Below w.heap.size w P := by rw [← hPe]; exact put5_below hbw4 (by omega)
        have hPm : ∀ b', b' ≠ w.heap.size + 1 → Same w4 P b' := fun b' hb' => by rw [← hPe]; exact put5_same _ _ _ _ _ hb'
        have hq0 : ∀ q, q < 5 → P.cell? ⟨w.heap.size + 1, q, none⟩ = (words (.of 24 0 ⟨#[]⟩ a2 c2 0 [leaf 0 0 ⟨#[]⟩, leaf 0 0 ⟨#[]⟩]))[q]? := fun q hq => by
          have := put5_cell (w := w4) (b := w.heap.size + 1) (o := 0) (y := .of 24 0 ⟨#[]⟩ a2 c2 0 [leaf 0 0 ⟨#[]⟩, leaf 0 0 ⟨#[]⟩]) (t := 42) (m := 5) ⟨_, xz.below hb04 (by omega), rfl⟩ (by omega) q hq
          rw [Nat.zero_add] at this
          rw [← hPe]
          exact this
        rw [← put5_of] at hPe
        have hPe' : ((((w4.setCell ⟨w.heap.size + 1, 0, none⟩ (.int .i64 24)).setCell ⟨w.heap.size + 1, 1, none⟩ (.int .u64 0)).setCell ⟨w.heap.size + 1, 2, none⟩ (.string ⟨#[]⟩)).setCell ⟨w.heap.size + 1, 3, none⟩ (.slice a2 2 c2)).setCell ⟨w.heap.size + 1, 4, none⟩ (.int .i64 0) = P := hPe
        have HPE := hide hPe'
        have HPM := hide hPm
        have HQ0 := hide hq0
        clear hPe hPe' hPm hq0
        go_wp2
        rw [HPE.out]
        have j0 : P.cell? ⟨w.heap.size + 1, 0, none⟩ = some (.int .i64 24) := HQ0.out 0 (by omega)
        have j1 : P.cell? ⟨w.heap.size + 1, 1, none⟩ = some (.int .u64 0) := HQ0.out 1 (by omega)
        have j2 : P.cell? ⟨w.heap.size + 1, 2, none⟩ = some (.string ⟨#[]⟩) := HQ0.out 2 (by omega)
        have j3 : P.cell? ⟨w.heap.size + 1, 3, none⟩ = some (.slice a2 2 c2) := HQ0.out 3 (by omega)
        have j4 : P.cell? ⟨w.heap.size + 1, 4, none⟩ = some (.int .i64 0) := HQ0.out 4 (by omega)
        refine bodyPost_ret (v := .tuple #[.agg #[.int .i64 24, .int .u64 0, .string ⟨#[]⟩, .slice a2 2 c2, .int .i64 0], .int .i64 0]) (by simp [results, Tryz.results35, go_sem, j0, j1, j2, j3, j4]) rfl ⟨v, ?_, ⟨⟨a2, a3, c2, c3, HV.out.symm⟩, ?_⟩, hPb⟩
        · show _ = Ending.returned (.tuple #[v.val, .int .i64 0])
          rw [hvv]
        · exact LiesIn.keep HLV.out (fun b' hq o => (HPM.out b' (by omega) o).trans (hb34.cell (p := ⟨b', o, none⟩) (by show b' < _; omega))) (fun b' hq => by omega)
end Go.Proofs.YtgldcchleoklcaaGreatDoor
