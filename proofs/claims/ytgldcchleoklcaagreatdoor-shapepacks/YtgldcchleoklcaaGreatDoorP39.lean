/- HGPk -/
import Derived.Test.YtgldcchleoklcaaGreatDoorP32
import Derived.Test.YtgldcchleoklcaaGreatDoorP38
namespace Go.Proofs.YtgldcchleoklcaaGreatDoor
open Go.RowKit
set_option linter.unusedVariables false
set_option linter.unusedSimpArgs false
def endT (kind : Int) (r : (Int × List T) × Int × Int) : T × Int := if r.2.2 ≠ 0 then (nul, r.2.2) else if 32 < T.dp (laidT kind r.1.2) then (nul, 26) else (laidT kind r.1.2, 0)
def packT (re : T → T × Int) (kind : Int) (l : List V) : T × Int := match ftab kind with
  | none => (nul, 70)
  | some fs => if l.length ≠ fs.length then (nul, 71) else endT kind (rowT kind (List.zipWith (chkV re) fs l))
set_option maxRecDepth 100000 in
set_option maxHeartbeats 20000000 in
theorem packed_all (re : T → T × Int) (kind : Int) (a : Option Addr) (l : List V) (c n₀ : Nat) (w : World) (hn : n₀ ≤ w.heap.size) (hl : Lies n₀ w (V.of 0 0 ⟨#[]⟩ a c 0 l)) (hre : ∀ x ∈ l, chkE x = 0 → RepOk re x) (hT : ∀ W, Below w.heap.size w W → Lib.Utf8Tabs 0 1 W) :
    Calls Tryz.prog 35 #[.agg #[.int .i64 kind, .slice a l.length c]] w (ValPost n₀ (packT re kind l) w) := by
  generalize hR : packT re kind l = R
  unfold packT at hR
  obtain ⟨W0, hW0⟩ : ∃ W0, (w.alloc (Obj.cells #[.int .i64 kind, .slice a l.length c] 33)).alloc (Obj.cells #[.int .i64 0, .int .u64 0, .string ⟨#[]⟩, .slice none 0 0, .int .i64 0] 42) = W0 := ⟨_, rfl⟩
  have hs0 : W0.heap.size = w.heap.size + 2 := by rw [← hW0]; simp
  have hb0 : Below w.heap.size w W0 := by rw [← hW0]; exact bel2 (Below.refl _ _) (Nat.le_refl _) _ _
  have xr : BoxR W0 w.heap.size kind a l.length c := by rw [← hW0]; exact heap_past (World.alloc_heap_new _ _) _
  have xz : BoxV W0 (w.heap.size + 1) nul := by rw [← hW0]; exact heap_at1 _ _ _
  obtain ⟨r0, r1⟩ := xr.cells
  have hw00 : w.heap.size < W0.heap.size := by omega
  have HINR : Hid (0 < l.length → ∃ b o, a = some ⟨b, o, none⟩ ∧ b < n₀ ∧ Row w b o l) := fun h0 => hl.row h0
  have HLS := hide (fun x hx => hl.sub x hx)
  have hlc := hl.ok.l
  have hlcc := hl.ok.c
  have HRE := hide hre
  have HT := hide hT
  have HW0 := hide hW0
  have HBAD : Hid (∀ (wz : World) (n : Int), Below W0.heap.size W0 wz → R = (nul, n) → ValPost n₀ R w (.returned (.tuple #[.agg #[.int .i64 0, .int .u64 0, .string ⟨#[]⟩, .slice none 0 0, .int .i64 0], .int .i64 n])) (((((wz.setCell ⟨w.heap.size + 1, 0, none⟩ (.int .i64 0)).setCell ⟨w.heap.size + 1, 1, none⟩ (.int .u64 0)).setCell ⟨w.heap.size + 1, 2, none⟩ (.string ⟨#[]⟩)).setCell ⟨w.heap.size + 1, 3, none⟩ (.slice none 0 0)).setCell ⟨w.heap.size + 1, 4, none⟩ (.int .i64 0))) := by
    intro wz n hz e
    have h := valpost_nul (n₀ := n₀) (n := n) (put5_below (y := nul) (o := 0) (b := w.heap.size + 1) (belOn hb0 (by omega) hz) (by omega))
    rw [VN_nul, ← put5_eq] at h
    rw [e]
    exact h
  have HZ2 : Hid (∀ wz, Below W0.heap.size W0 wz → wz.cell? ⟨w.heap.size + 1, 0, none⟩ = some (.int .i64 0) ∧ wz.cell? ⟨w.heap.size + 1, 1, none⟩ = some (.int .u64 0) ∧ wz.cell? ⟨w.heap.size + 1, 2, none⟩ = some (.string ⟨#[]⟩) ∧ wz.cell? ⟨w.heap.size + 1, 3, none⟩ = some (.slice none 0 0) ∧ wz.cell? ⟨w.heap.size + 1, 4, none⟩ = some (.int .i64 0) ∧ (∀ j, wz.frozen? ⟨w.heap.size + 1, j, none⟩ = false) ∧ w.heap.size + 1 < wz.heap.size) := by
    intro wz hz
    have xz1 := xz.below hz (by omega)
    obtain ⟨z0, z1, z2, z3, z4⟩ := xz1.cells
    exact ⟨z0, z1, z2, z3, z4, fun j => (show Blk wz (w.heap.size + 1) 42 5 from ⟨_, xz1, rfl⟩).free j, by have := hz.size; omega⟩
  clear hW0 hl hre hT
  cases hft : ftab kind with
  | none =>
    rw [hft] at hR
    have HRK : Hid (R = (nul, 70)) := hR.symm
    have HF := hide (fields_none hft W0)
    clear hR hft
    go_enter Tryz.func35, Tryz.ntmps35
    go_wp2_with fail
    rw [HW0.out]
    refine HF.out.mono ?_
    rintro e1 w1 ⟨rfl, hb1⟩
    obtain ⟨z0, z1, z2, z3, z4, fz, hzl⟩ := HZ2.out _ hb1
    go_wp2
    exact bodyPost_ret (v := .tuple #[.agg #[.int .i64 0, .int .u64 0, .string ⟨#[]⟩, .slice none 0 0, .int .i64 0], .int .i64 70]) (by simp [results, Tryz.results35, go_sem, z0, z1, z2, z3, z4]) rfl (HBAD.out _ _ hb1 HRK.out)
  | some fs0 =>
    rw [hft] at hR
    dsimp only at hR
    obtain ⟨hfl20, hfok⟩ := ftab_ok hft
    have HFT := hide hft
    by_cases hlen : l.length = fs0.length
    rotate_left
    · have HRK : Hid (R = (nul, 71)) := by rw [Hid, ← hR, if_pos hlen]
      obtain ⟨N, hN⟩ : ∃ N, fs0.length = N := ⟨_, rfl⟩
      have HF := hide (fields_some hft hN W0)
      have hne : ¬ ((l.length : Int) = (N : Int)) := by omega
      have hneb : ((l.length : Int) == (N : Int)) = false := by rw [beq_eq_false_iff_ne]; exact hne
      have hnen : ((l.length : Int) != (N : Int)) = true := by simpa using hne
      clear hR hft HFT hfok hN hlen hfl20
      go_enter Tryz.func35, Tryz.ntmps35
      go_wp2_with fail
      rw [HW0.out]
      refine HF.out.mono ?_
      rintro e1 w1 ⟨af, fs, rfl, _, hb1⟩
      obtain ⟨z0, z1, z2, z3, z4, fz, hzl⟩ := HZ2.out _ hb1
      obtain ⟨q0, q1⟩ := (xr.below hb1 (by omega)).cells
      have hw1 : w.heap.size < w1.heap.size := by omega
      go_wp2
      exact bodyPost_ret (v := .tuple #[.agg #[.int .i64 0, .int .u64 0, .string ⟨#[]⟩, .slice none 0 0, .int .i64 0], .int .i64 71]) (by simp [results, Tryz.results35, go_sem, z0, z1, z2, z3, z4]) rfl (HBAD.out _ _ hb1 HRK.out)
    rw [if_neg (by simpa using hlen)] at hR
    have HF := hide (fields_some hft hlen.symm W0)
    obtain ⟨rs, hrs⟩ : ∃ rs, List.zipWith (chkV re) fs0 l = rs := ⟨_, rfl⟩
    rw [hrs] at hR
    have HRW := hide hR
    have hrl : rs.length = l.length := by rw [← hrs, List.length_zipWith, hlen, Nat.min_self]
    have HRI : Hid (∀ i (h : i < rs.length) (h' : i < fs0.length) (h'' : i < l.length), rs[i] = chkV re fs0[i] l[i]) := by
      intro i h h' h''
      have h1 : rs[i]? = (List.zipWith (chkV re) fs0 l)[i]? := by rw [hrs]
      rw [List.getElem?_eq_getElem h, List.getElem?_eq_getElem (by rw [hrs]; exact h), List.getElem_zipWith] at h1
      exact Option.some.inj h1
    have HRL := hide hrl
    have HFOK := hide hfok
    have HLEN := hide hlen
    have hcc : l.length ≤ 20 := by omega
    clear hR hft hfok hlen hrs hrl hfl20
    go_enter Tryz.func35, Tryz.ntmps35
    go_wp2_with fail
    rw [HW0.out]
    clear HW0
    refine HF.out.mono ?_
    rintro e1 w1 ⟨af, fs, rfl, HFS, hb1⟩
    have hs1 := hb1.size
    have hbw1 : Below w.heap.size w w1 := belOn hb0 (by omega) hb1
    have hmk := run_makeV l.length l.length (Nat.le_refl _) (by omega)
    clear r0 r1
    obtain ⟨r0, r1⟩ := (xr.below hb1 (by omega)).cells
    have hw0 : w.heap.size < w1.heap.size := by omega
    have hmx : Tryz.prog.follows .mixedOrders = true := by kernel_rfl
    go_wp2
    go_region
    · obtain ⟨W1, hW1⟩ : ∃ W1, ((w1.alloc (Obj.cells (madeCells zeroV (l.length * 5)) 42)).alloc (Obj.cells #[.int .i64 kind, .slice (some ⟨w1.heap.size, 0, none⟩) l.length l.length] 33)).drew = W1 := ⟨_, rfl⟩
      have hsW1 : W1.heap.size = w1.heap.size + 2 := by rw [← hW1]; show (World.alloc (World.alloc w1 _) _).heap.size = _; simp
      have hb11 : Below w1.heap.size w1 W1 := by rw [← hW1]; exact (bel2 (Below.refl _ _) (Nat.le_refl _) _ _).drew
      have hk1' : Blk W1 w1.heap.size 42 (l.length * 5) := by
        rw [← hW1]
        exact (show Blk (w1.alloc (Obj.cells (madeCells zeroV (l.length * 5)) 42)) w1.heap.size 42 (l.length * 5) from Blk.made _ _ _ _).below (bel1 (Below.refl _ _) (Nat.le_refl _) _).drew (by simp)
      have hxf1 : BoxR W1 (w1.heap.size + 1) kind (some ⟨w1.heap.size, 0, none⟩) l.length l.length := by rw [← hW1]; exact heap_at1 _ _ _
      rw [hW1]
      have HK1 := hide hk1'
      have HXF1 := hide hxf1
      clear hW1 hmk hk1' hxf1 r0 r1
      go_wp2
      go_loopw [35] (fun u wr => ∃ (i : Nat), u = .int .i64 i ∧ i ≤ l.length ∧ Below w1.heap.size w1 wr ∧ W1.heap.size ≤ wr.heap.size ∧ Hid (BoxR wr (w1.heap.size + 1) kind (some ⟨w1.heap.size, 0, none⟩) l.length l.length) ∧ Hid (Blk wr w1.heap.size 42 (l.length * 5)) ∧ Hid (∃ ys, Made n₀ W0.heap.size w1.heap.size rs i ys wr ∧ RowF wr w1.heap.size i (fun j => (ys[j]?).getD nul))) (fun u _ => l.length + 1 - (intOf u).toNat)
      case atStart => exact ⟨0, rfl, Nat.zero_le _, hb11, Nat.le_refl _, HXF1, HK1, ⟨[], ⟨rfl, fun j h => absurd h (by simp), fun j _ h => absurd h (by omega), fun x hx => by cases hx⟩, fun j hj => absurd hj (by omega)⟩⟩
      case round =>
        obtain ⟨i, rfl, hi, hb, hsz, HXFr, HKr, HYS⟩ := hrel
        have hsb := hb.size
        have hb0r : Below W0.heap.size W0 wr := belOn hb1 (by omega) hb
        have hbw : Below w.heap.size w wr := belOn hb0 (by omega) hb0r
        obtain ⟨ys, hmade, hrowf⟩ := HYS.out
        have HMADE := hide hmade
        have HRFr := hide hrowf
        clear hmade hrowf HYS
        by_cases hil : i < l.length
        · have hfl : fs.length = l.length := HFS.out.1.trans HLEN.out.symm
          have hfi : i < fs.length := by rw [hfl]; exact hil
          have hdi : i < fs0.length := by rw [← HLEN.out]; exact hil
          have hri : i < rs.length := by rw [HRL.out]; exact hil
          have hfdin : FdIn 0 wr fs[i] fs0[i] := by
            obtain ⟨e1, e2, e3, e4, e5, e6, e7⟩ := HFS.out.2.2 i hfi hdi
            refine ⟨e1, e2, e3, e4, e5, e6, fun h0 => ?_⟩
            obtain ⟨b', ee, _, h2, h3⟩ := e7 h0
            exact ⟨b', ee, Nat.zero_le _, by omega, (hb.block b' h2).trans h3⟩
          have hokf := HFOK.out fs0[i] (List.getElem_mem hdi)
          obtain ⟨bf, rfl, _, hbf2, hfrr⟩ := HFS.out.2.1 (by omega)
          obtain ⟨b, o, rfl, hbn, hrl⟩ := HINR.out (by omega)
          obtain ⟨c0, c1, c2, c3, c4, c5, c6, c7, c8⟩ := (hfrr.below hb hbf2).cells i hfi
          clear hfrr hfl
          have hval := HRI.out i hri hdi hil
          have hcase : ∀ W', Below wr.heap.size wr W' → Calls Tryz.prog 98 #[fs[i].val, l[i].val] W' (ValPost n₀ rs[i] W') := fun W' hW' => by
            rw [hval]
            have hbW := belOn hbw (by omega) hW'
            refine checked_all re fs[i] fs0[i] l[i] n₀ W' (by have := hbW.size; omega) ((HLS.out _ (List.getElem_mem hil)).keep hbW hn) ?_ hokf (fun _ _ h => HRE.out _ (List.getElem_mem hil) h) (fun W2 hW2 => HT.out W2 (belOn hbW (by have := hbW.size; omega) hW2))
            obtain ⟨e1, e2, e3, e4, e5, e6, e7⟩ := hfdin
            refine ⟨e1, e2, e3, e4, e5, e6, fun h0 => ?_⟩
            obtain ⟨b', ee, _, h2, h3⟩ := e7 h0
            exact ⟨b', ee, Nat.zero_le _, by have := hW'.size; omega, (hW'.block b' h2).trans h3⟩
          clear hfdin hval hokf
          generalize (fs[i]'hfi) = F at c0 c1 c2 c3 c4 c5 c6 c7 c8 hcase
          have hxi := hrl i hil
          generalize l[i] = X at hcase hxi
          obtain ⟨WR, hWR⟩ : ∃ WR, wr.alloc (.cells F.cs 66) = WR := ⟨_, rfl⟩
          have hsR : WR.heap.size = wr.heap.size + 1 := by rw [← hWR]; simp
          have hbR : Below w.heap.size w WR := by rw [← hWR]; exact bel1 hbw (by omega) _
          have hbR0 : Below W0.heap.size W0 WR := by rw [← hWR]; exact bel1 hb0r (by omega) _
          have hbR1 : Below w1.heap.size w1 WR := by rw [← hWR]; exact bel1 hb (by omega) _
          have hbRr : Below wr.heap.size wr WR := by rw [← hWR]; exact bel1 (Below.refl _ _) (Nat.le_refl _) _
          have xF : BoxF WR wr.heap.size F := by rw [← hWR]; exact World.alloc_heap_new _ _
          have HS : Hid (∀ W', Below WR.heap.size WR W' → (fun W' => W'.cell? ⟨w.heap.size, 1, none⟩ = some (.slice (some ⟨b, o, none⟩) l.length c) ∧ W'.cell? ⟨(w1.heap.size + 1), 1, none⟩ = some (.slice (some ⟨w1.heap.size, 0, none⟩) l.length l.length) ∧ W'.cell? ⟨b, o + i * 5, none⟩ = some (.int .i64 X.k) ∧ W'.cell? ⟨b, o + i * 5 + 1, none⟩ = some (.int .u64 X.n) ∧ W'.cell? ⟨b, o + i * 5 + 2, none⟩ = some (.string X.s) ∧ W'.cell? ⟨b, o + i * 5 + 3, none⟩ = some (.slice X.a X.l.length X.c) ∧ W'.cell? ⟨b, o + i * 5 + 4, none⟩ = some (.int .i64 X.e) ∧ W'.cell? ⟨wr.heap.size, 0, none⟩ = some (.string F.name) ∧ W'.cell? ⟨wr.heap.size, 1, none⟩ = some (.int .i64 F.ty) ∧ W'.cell? ⟨wr.heap.size, 2, none⟩ = some (.slice F.ka F.kl F.kc) ∧ W'.cell? ⟨wr.heap.size, 3, none⟩ = some (.bool F.must) ∧ W'.cell? ⟨wr.heap.size, 4, none⟩ = some (.int .i64 F.d.k) ∧ W'.cell? ⟨wr.heap.size, 5, none⟩ = some (.int .u64 F.d.n) ∧ W'.cell? ⟨wr.heap.size, 6, none⟩ = some (.string F.d.s) ∧ W'.cell? ⟨wr.heap.size, 7, none⟩ = some (.slice F.d.a F.d.l.length F.d.c) ∧ W'.cell? ⟨wr.heap.size, 8, none⟩ = some (.int .i64 F.d.e)) W') := by
            intro W' hb'
            have hbW := belOn hbR (by omega) hb'
            have hbW0 := belOn hbR0 (by omega) hb'
            have hbWr := belOn hbRr (by omega) hb'
            have e1 : ∀ o', W'.cell? ⟨b, o', none⟩ = w.cell? ⟨b, o', none⟩ := fun o' => hbW.cell (p := ⟨b, o', none⟩) (by show b < _; omega)
            obtain ⟨q0, q1, q2, q3, q4⟩ := hxi
            obtain ⟨g0, g1, g2, g3, g4, g5, g6, g7, g8⟩ := (xF.below hb' (by omega)).cells
            exact ⟨(xr.below hbW0 (by omega)).cells.2, (HXFr.out.below hbWr (by omega)).cells.2, (e1 _).trans q0, (e1 _).trans q1, (e1 _).trans q2, (e1 _).trans q3, (e1 _).trans q4, g0, g1, g2, g3, g4, g5, g6, g7, g8⟩
          have HSP : Hid (∀ W', Below WR.heap.size WR W' → ∀ y, (fun W' => W'.cell? ⟨w.heap.size, 1, none⟩ = some (.slice (some ⟨b, o, none⟩) l.length c) ∧ W'.cell? ⟨(w1.heap.size + 1), 1, none⟩ = some (.slice (some ⟨w1.heap.size, 0, none⟩) l.length l.length) ∧ W'.cell? ⟨b, o + i * 5, none⟩ = some (.int .i64 X.k) ∧ W'.cell? ⟨b, o + i * 5 + 1, none⟩ = some (.int .u64 X.n) ∧ W'.cell? ⟨b, o + i * 5 + 2, none⟩ = some (.string X.s) ∧ W'.cell? ⟨b, o + i * 5 + 3, none⟩ = some (.slice X.a X.l.length X.c) ∧ W'.cell? ⟨b, o + i * 5 + 4, none⟩ = some (.int .i64 X.e) ∧ W'.cell? ⟨wr.heap.size, 0, none⟩ = some (.string F.name) ∧ W'.cell? ⟨wr.heap.size, 1, none⟩ = some (.int .i64 F.ty) ∧ W'.cell? ⟨wr.heap.size, 2, none⟩ = some (.slice F.ka F.kl F.kc) ∧ W'.cell? ⟨wr.heap.size, 3, none⟩ = some (.bool F.must) ∧ W'.cell? ⟨wr.heap.size, 4, none⟩ = some (.int .i64 F.d.k) ∧ W'.cell? ⟨wr.heap.size, 5, none⟩ = some (.int .u64 F.d.n) ∧ W'.cell? ⟨wr.heap.size, 6, none⟩ = some (.string F.d.s) ∧ W'.cell? ⟨wr.heap.size, 7, none⟩ = some (.slice F.d.a F.d.l.length F.d.c) ∧ W'.cell? ⟨wr.heap.size, 8, none⟩ = some (.int .i64 F.d.e)) (put5 W' w1.heap.size (i * 5) y)) := by
            intro W' hb' y
            have h := HS.out W' hb'
            have e : ∀ b' o', b' ≠ w1.heap.size → (put5 W' w1.heap.size (i * 5) y).cell? ⟨b', o', none⟩ = W'.cell? ⟨b', o', none⟩ := fun b' o' hne => put5_same _ _ _ _ _ hne o'
            simp only [e w.heap.size _ (by omega), e (w1.heap.size + 1) _ (by omega), e b _ (by omega), e wr.heap.size _ (by omega)]
            exact h
          simp only [← put5_eq] at HSP
          have HB0 : Hid (Below WR.heap.size WR WR.drew) := (Below.refl _ _).drew
          have he := hcase WR.drew hbRr.drew
          rw [Fd.val_eq, V.val_eq] at he
          generalize hrr : rs[i] = r at he
          have HRRI := hide hrr
          have HE := hide he
          have HWR := hide hWR
          unfold Fd.cs at HWR
          have hbfr : bf < wr.heap.size := by omega
          have hbr : b < wr.heap.size := by omega
          have HZ : Hid (∀ W', Below WR.heap.size WR W' → Blk W' w1.heap.size 42 (l.length * 5)) := fun W' hb' => (HKr.out.below hbRr (by omega)).below hb' (by omega)
          clear he hWR hcase hrr hxi hrl
          go_wp2_with fail
          rw [HWR.out]
          go_region_held (fun W' => W'.cell? ⟨w.heap.size, 1, none⟩ = some (.slice (some ⟨b, o, none⟩) l.length c) ∧ W'.cell? ⟨(w1.heap.size + 1), 1, none⟩ = some (.slice (some ⟨w1.heap.size, 0, none⟩) l.length l.length) ∧ W'.cell? ⟨b, o + i * 5, none⟩ = some (.int .i64 X.k) ∧ W'.cell? ⟨b, o + i * 5 + 1, none⟩ = some (.int .u64 X.n) ∧ W'.cell? ⟨b, o + i * 5 + 2, none⟩ = some (.string X.s) ∧ W'.cell? ⟨b, o + i * 5 + 3, none⟩ = some (.slice X.a X.l.length X.c) ∧ W'.cell? ⟨b, o + i * 5 + 4, none⟩ = some (.int .i64 X.e) ∧ W'.cell? ⟨wr.heap.size, 0, none⟩ = some (.string F.name) ∧ W'.cell? ⟨wr.heap.size, 1, none⟩ = some (.int .i64 F.ty) ∧ W'.cell? ⟨wr.heap.size, 2, none⟩ = some (.slice F.ka F.kl F.kc) ∧ W'.cell? ⟨wr.heap.size, 3, none⟩ = some (.bool F.must) ∧ W'.cell? ⟨wr.heap.size, 4, none⟩ = some (.int .i64 F.d.k) ∧ W'.cell? ⟨wr.heap.size, 5, none⟩ = some (.int .u64 F.d.n) ∧ W'.cell? ⟨wr.heap.size, 6, none⟩ = some (.string F.d.s) ∧ W'.cell? ⟨wr.heap.size, 7, none⟩ = some (.slice F.d.a F.d.l.length F.d.c) ∧ W'.cell? ⟨wr.heap.size, 8, none⟩ = some (.int .i64 F.d.e)) (first | with_reducible exact HS.out _ HB0.out | with_reducible exact HS.out _ HB2.out | with_reducible exact HSP.out _ HB2.out _) ((go_at_call 98; refine Calls.mono HE.out ?_; rintro e2 w2 ⟨yy, rfl, HY, hb2⟩; have HS3 := hide hb2.size; unfold VN; have HB2 : Hid (Below WR.heap.size WR w2) := belOn HB0.out HB0.out.size hb2; clear hb2; have hs2 := HB2.out.size; have hk2 := HZ.out _ HB2.out; obtain ⟨z0, y0⟩ := hk2.some (i * 5) (by omega); obtain ⟨z1, y1⟩ := hk2.some (i * 5 + 1) (by omega); obtain ⟨z2, y2⟩ := hk2.some (i * 5 + 2) (by omega); obtain ⟨z3, y3⟩ := hk2.some (i * 5 + 3) (by omega); obtain ⟨z4, y4⟩ := hk2.some (i * 5 + 4) (by omega); have fz := hk2.free; have hlw : w1.heap.size < w2.heap.size := (by omega); have HK2 := hide hk2; clear hk2))
          all_goals
            have hbr2 : Below wr.heap.size wr w2 := belOn hbRr (by omega) HB2.out
            have hb12 : Below w1.heap.size w1 w2 := belOn hbR1 (by omega) HB2.out
            have hpb := put5_below (y := yy) (o := i * 5) (b := w1.heap.size) hb12 (by omega)
            have hpk := put5_blk HK2.out (i * 5) yy
            have hpx : BoxR (put5 w2 w1.heap.size (i * 5) yy) (w1.heap.size + 1) kind (some ⟨w1.heap.size, 0, none⟩) l.length l.length := (put5_hp _ _ _ _ _ (by omega)).trans (HXFr.out.below hbr2 (by omega))
            have hps := put5_size w2 w1.heap.size (i * 5) yy
            have hpm : r.2 = 0 → ∃ ys, Made n₀ W0.heap.size w1.heap.size rs (i + 1) ys (put5 w2 w1.heap.size (i * 5) yy) ∧ RowF (put5 w2 w1.heap.size (i * 5) yy) w1.heap.size (i + 1) (fun j => (ys[j]?).getD nul) := fun h0 => by
              have hyl : ys.length = i := HMADE.out.1
              refine ⟨ys ++ [yy], HMADE.out.push (fun b hb' => ?_) (by rw [hps]; omega) hri (by rw [HRRI.out]; exact HY.out.1) (by rw [HRRI.out]; exact h0) ?_, ?_⟩
              · intro o'
                have hbb : b < wr.heap.size ∧ b ≠ w1.heap.size := by omega
                exact (put5_same _ _ _ _ _ hbb.2 o').trans (hbr2.cell (p := ⟨b, o', none⟩) hbb.1)
              · refine LiesIn.keep HY.out.2 (fun b hb' => put5_same _ _ _ _ _ ?_) (fun b hb' => ?_)
                · rcases hb' with h | h
                  · omega
                  · have : WR.drew.heap.size ≤ b := h.1; have : WR.drew.heap.size = WR.heap.size := rfl; omega
                · rw [hps]
                  rcases hb' with h | h
                  · exact .inl h
                  · have : WR.drew.heap.size ≤ b := h.1; have : WR.drew.heap.size = WR.heap.size := rfl; exact .inr ⟨by omega, h.2, by omega⟩
              · refine RowF.snoc (y := yy) HK2.out ((HRFr.out.below hbr2 (by omega)).eq (fun j hj => ?_)) (by omega) ?_
                · show _ = ((ys ++ [yy])[j]?).getD nul
                  rw [List.getElem?_append_left (by omega)]
                · show ((ys ++ [yy])[i]?).getD nul = yy
                  rw [List.getElem?_append_right (by omega), hyl]
                  simp
            have HBADI : Hid (r.2 ≠ 0 → R = (nul, r.2)) := fun hne => by
              rw [← HRW.out, rowT_bad hri (by rw [HRRI.out]; exact hne) HMADE.out.2.2.1, HRRI.out]
              unfold endT
              rw [if_pos hne]
            have hb0p := put5_below (y := yy) (o := i * 5) (b := w1.heap.size) (belOn hb1 (by omega) hb12) (by omega)
            have hZP := HZ2.out _ hb0p
            have HBADP := hide (fun n e => HBAD.out (put5 w2 w1.heap.size (i * 5) yy) n hb0p e)
            rw [← put5_eq] at hpb hpk hpx hps hpm hZP HBADP
            have HPB := hide hpb
            have HPK := hide hpk
            have HPX := hide hpx
            have HPM := hide hpm
            obtain ⟨z0', z1', z2', z3', z4', fz', hzw'⟩ := hZP
            clear hpb hpk hpx hpm hb0p
            generalize r.2 = rn at HBADI HPM
            by_cases hrn : rn = 0
            · subst hrn
              have HPM0 := hide (HPM.out rfl)
              clear HPM HBADI
              go_wp2
              go_roundw
              case rel => exact ⟨i + 1, by go_num, by omega, HPB.out, by omega, HPX.out, HPK.out, HPM0.out⟩
              case measure => simp [intOf]; omega
            · have hrb : (rn == 0) = false := by simpa using hrn
              have hrnn : (rn != 0) = true := by simpa using hrn
              have HBD := hide (HBADP.out _ (HBADI.out hrn))
              clear HPM HBADI HBADP
              go_wp2
              exact bodyPost_ret (v := .tuple #[.agg #[.int .i64 0, .int .u64 0, .string ⟨#[]⟩, .slice none 0 0, .int .i64 0], .int .i64 rn]) (by simp [results, Tryz.results35, go_sem, z0', z1', z2', z3', z4']) rfl HBD.out
        · have hie : i = l.length := by omega
          have hyl : ys.length = l.length := HMADE.out.1.trans hie
          have hrow : Row wr w1.heap.size 0 ys := HRFr.out.row ys (by omega) (fun j hj => by simp [hj])
          have hmap : rs.map Prod.fst = V.ts ys := by
            refine List.ext_getElem? fun j => ?_
            rw [List.getElem?_map, V.ts_map, List.getElem?_map]
            by_cases hj : j < l.length
            · have h1 : j < rs.length := by rw [HRL.out]; exact hj
              have h2 : j < ys.length := by omega
              rw [List.getElem?_eq_getElem h1, List.getElem?_eq_getElem h2, Option.map_some, Option.map_some, HMADE.out.2.1 j h2 h1]
            · rw [List.getElem?_eq_none (by rw [HRL.out]; omega), List.getElem?_eq_none (by omega)]
              rfl
          have HRFIN : Hid (R = if 32 < T.dp (laidT kind (V.ts ys)) then (nul, 26) else (laidT kind (V.ts ys), 0)) := by
            rw [Hid, ← HRW.out, rowT_good (fun j hj => HMADE.out.2.2.1 j hj (by rw [HRL.out] at hj; omega)), hmap]
            unfold endT
            rw [if_neg (by simp)]
          subst hie
          have hlaid := laid_all (fun q => q < n₀ ∨ (W0.heap.size ≤ q ∧ q < wr.heap.size ∧ q ≠ w1.heap.size)) kind fs0 HFT.out ys (by rw [hyl, HLEN.out]) w1.heap.size l.length (by omega) wr (fun q hq => by omega) (by omega) hrow (fun x hx => HMADE.out.2.2.2 x hx)
          rw [hyl] at hlaid
          have HLD := hide hlaid
          obtain ⟨x0, x1⟩ := HXFr.out.cells
          have hfw : (w1.heap.size + 1) < wr.heap.size := by omega
          have HYL := hide hyl
          clear hlaid hrow hyl
          go_wp2_with fail
          refine HLD.out.mono ?_
          rintro e3 w3 ⟨a2, a3, c2, c3, rfl, HLV, hb3⟩
          have hs3 := hb3.size
          have hb03 : Below W0.heap.size W0 w3 := belOn hb0r (by omega) hb3
          have hbw3 : Below w.heap.size w w3 := belOn hb0 (by omega) hb03
          have htt := laid_t HFT.out ys a2 a3 c2 c3
          generalize hv : V.of 24 0 ⟨#[]⟩ a2 c2 0 [leaf 5 kind ⟨#[]⟩, .of 21 0 ⟨#[]⟩ a3 c3 0 ((outs ys (fs0.map FS.d)).take (saidN ys (fs0.map FS.d) ys.length))] = v at HLV htt
          have hvv : v.val = .agg #[.int .i64 24, .int .u64 0, .string ⟨#[]⟩, .slice a2 2 c2, .int .i64 0] := by rw [← hv, V.val_of]; rfl
          have hRv : R = if 32 < mx (v.all 1) then (nul, 26) else (laidT kind (V.ts ys), 0) := by
            rw [HRFIN.out, ← htt, dp_t]
            by_cases h32 : 32 < T.dp v
            · rw [if_pos h32, if_pos ((mx_deep v).2 h32)]
            · rw [if_neg h32, if_neg (fun h => h32 ((mx_deep v).1 h))]
          obtain ⟨W3, hW3⟩ : ∃ W3, w3.alloc (Obj.cells #[.int .i64 24, .int .u64 0, .string ⟨#[]⟩, .slice a2 2 c2, .int .i64 0] 42) = W3 := ⟨_, rfl⟩
          have hsW3 : W3.heap.size = w3.heap.size + 1 := by rw [← hW3]; simp
          have hb33 : Below w3.heap.size w3 W3 := by rw [← hW3]; exact bel1 (Below.refl _ _) (Nat.le_refl _) _
          have hx3 : W3.heap[w3.heap.size]? = some (.cells #[.int .i64 24, .int .u64 0, .string ⟨#[]⟩, .slice a2 2 c2, .int .i64 0] 42 (0, 0)) := by rw [← hW3]; exact World.alloc_heap_new _ _
          have hdep := depth_any v w3.heap.size W3 (by omega) (LiesIn.keep HLV.out (fun b' hq o' => hb33.cell (p := ⟨b', o', none⟩) (by show b' < _; omega)) (fun b' hq => by omega))
          rw [hvv] at hdep
          generalize mx (v.all 1) = dpt at hdep hRv
          have HDE := hide hdep
          have HW3 := hide hW3
          have HV := hide hv
          have HRV := hide hRv
          have HTT := hide htt
          clear hdep hW3 hv hRv htt HRFIN
          go_wp2_with fail
          rw [HW3.out]
          refine HDE.out.mono ?_
          rintro e4 w4 ⟨rfl, hb4⟩
          have hs4 := hb4.size
          have hb34 : Below w3.heap.size w3 w4 := hb33.trans (hb4.mono (by omega))
          have hb04 : Below W0.heap.size W0 w4 := belOn hb03 (by omega) hb34
          have hbw4 : Below w.heap.size w w4 := belOn hb0 (by omega) hb04
          obtain ⟨z0, z1, z2, z3, z4, fz, hz5⟩ := HZ2.out _ hb04
          by_cases hgt : 32 < dpt
          · have HRK : Hid (R = (nul, 26)) := by rw [Hid, HRV.out, if_pos hgt]
            clear HRV
            go_wp2
            exact bodyPost_ret (v := .tuple #[.agg #[.int .i64 0, .int .u64 0, .string ⟨#[]⟩, .slice none 0 0, .int .i64 0], .int .i64 26]) (by simp [results, Tryz.results35, go_sem, z0, z1, z2, z3, z4]) rfl (HBAD.out _ _ hb04 HRK.out)
          · have HRK : Hid (R = (laidT kind (V.ts ys), 0)) := by rw [Hid, HRV.out, if_neg hgt]
            have hx4 := (hb4.block w3.heap.size (by omega)).trans hx3
            have o0 : w4.cell? ⟨w3.heap.size, 0, none⟩ = some (.int .i64 24) := by unfold World.cell?; simp only [hx4]; rfl
            have o1 : w4.cell? ⟨w3.heap.size, 1, none⟩ = some (.int .u64 0) := by unfold World.cell?; simp only [hx4]; rfl
            have o2 : w4.cell? ⟨w3.heap.size, 2, none⟩ = some (.string ⟨#[]⟩) := by unfold World.cell?; simp only [hx4]; rfl
            have o3 : w4.cell? ⟨w3.heap.size, 3, none⟩ = some (.slice a2 2 c2) := by unfold World.cell?; simp only [hx4]; rfl
            have o4 : w4.cell? ⟨w3.heap.size, 4, none⟩ = some (.int .i64 0) := by unfold World.cell?; simp only [hx4]; rfl
            have hz6 : w3.heap.size < w4.heap.size := by omega
            have hend : ValPost n₀ R w (VN v 0) (put5 w4 (w.heap.size + 1) 0 v) := by
              rw [HRK.out]
              refine ⟨v, rfl, ⟨HTT.out, LiesIn.keep HLV.out (fun b' hq o' => (put5_same _ _ _ _ _ (by omega) o').trans (hb34.cell (p := ⟨b', o', none⟩) (by show b' < _; omega))) (fun b' hq => ?_)⟩, put5_below hbw4 (by omega)⟩
              rw [put5_size]
              rcases hq with (h | h) | h
              · exact .inl h
              · exact .inr ⟨by omega, by omega⟩
              · exact .inr ⟨by omega, by omega⟩
            have hvn : VN v 0 = .returned (.tuple #[.agg #[.int .i64 24, .int .u64 0, .string ⟨#[]⟩, .slice a2 2 c2, .int .i64 0], .int .i64 0]) := by
              show Ending.returned (.tuple #[v.val, .int .i64 0]) = _
              rw [hvv]
            rw [hvn, ← HV.out, ← put5_of] at hend
            have hend' : ValPost n₀ R w (.returned (.tuple #[.agg #[.int .i64 24, .int .u64 0, .string ⟨#[]⟩, .slice a2 2 c2, .int .i64 0], .int .i64 0])) (((((w4.setCell ⟨w.heap.size + 1, 0, none⟩ (.int .i64 24)).setCell ⟨w.heap.size + 1, 1, none⟩ (.int .u64 0)).setCell ⟨w.heap.size + 1, 2, none⟩ (.string ⟨#[]⟩)).setCell ⟨w.heap.size + 1, 3, none⟩ (.slice a2 2 c2)).setCell ⟨w.heap.size + 1, 4, none⟩ (.int .i64 0)) := hend
            have HEND := hide hend'
            clear hend hend' hvn HRK HRV hx4 hx3
            go_wp2
            exact bodyPost_ret (v := .tuple #[.agg #[.int .i64 24, .int .u64 0, .string ⟨#[]⟩, .slice a2 2 c2, .int .i64 0], .int .i64 0]) (by simp [results, Tryz.results35, go_sem, z0, z1, z2, z3, z4]) rfl HEND.out
    · obtain ⟨W1, hW1⟩ : ∃ W1, ((w1.alloc (Obj.cells #[.int .i64 kind, .slice (some ⟨w1.heap.size + 1, 0, none⟩) l.length l.length] 33)).alloc (Obj.cells (madeCells zeroV (l.length * 5)) 42)).drew = W1 := ⟨_, rfl⟩
      have hsW1 : W1.heap.size = w1.heap.size + 2 := by rw [← hW1]; show (World.alloc (World.alloc w1 _) _).heap.size = _; simp
      have hb11 : Below w1.heap.size w1 W1 := by rw [← hW1]; exact (bel2 (Below.refl _ _) (Nat.le_refl _) _ _).drew
      have hk1' : Blk W1 (w1.heap.size + 1) 42 (l.length * 5) := by
        rw [← hW1]
        exact (by have h9 : Blk ((w1.alloc (Obj.cells #[.int .i64 kind, .slice (some ⟨w1.heap.size + 1, 0, none⟩) l.length l.length] 33)).alloc (Obj.cells (madeCells zeroV (l.length * 5)) 42)) (w1.alloc (Obj.cells #[.int .i64 kind, .slice (some ⟨w1.heap.size + 1, 0, none⟩) l.length l.length] 33)).heap.size 42 (l.length * 5) := Blk.made _ _ _ _; rw [World.size_alloc] at h9; exact h9)
      have hxf1 : BoxR W1 w1.heap.size kind (some ⟨(w1.heap.size + 1), 0, none⟩) l.length l.length := by rw [← hW1]; exact heap_past (World.alloc_heap_new _ _) _
      rw [hW1]
      have HK1 := hide hk1'
      have HXF1 := hide hxf1
      clear hW1 hmk hk1' hxf1 r0 r1
      go_wp2
      go_loopw [35] (fun u wr => ∃ (i : Nat), u = .int .i64 i ∧ i ≤ l.length ∧ Below w1.heap.size w1 wr ∧ W1.heap.size ≤ wr.heap.size ∧ Hid (BoxR wr w1.heap.size kind (some ⟨(w1.heap.size + 1), 0, none⟩) l.length l.length) ∧ Hid (Blk wr (w1.heap.size + 1) 42 (l.length * 5)) ∧ Hid (∃ ys, Made n₀ W0.heap.size (w1.heap.size + 1) rs i ys wr ∧ RowF wr (w1.heap.size + 1) i (fun j => (ys[j]?).getD nul))) (fun u _ => l.length + 1 - (intOf u).toNat)
      case atStart => exact ⟨0, rfl, Nat.zero_le _, hb11, Nat.le_refl _, HXF1, HK1, ⟨[], ⟨rfl, fun j h => absurd h (by simp), fun j _ h => absurd h (by omega), fun x hx => by cases hx⟩, fun j hj => absurd hj (by omega)⟩⟩
      case round =>
        obtain ⟨i, rfl, hi, hb, hsz, HXFr, HKr, HYS⟩ := hrel
        have hsb := hb.size
        have hb0r : Below W0.heap.size W0 wr := belOn hb1 (by omega) hb
        have hbw : Below w.heap.size w wr := belOn hb0 (by omega) hb0r
        obtain ⟨ys, hmade, hrowf⟩ := HYS.out
        have HMADE := hide hmade
        have HRFr := hide hrowf
        clear hmade hrowf HYS
        by_cases hil : i < l.length
        · have hfl : fs.length = l.length := HFS.out.1.trans HLEN.out.symm
          have hfi : i < fs.length := by rw [hfl]; exact hil
          have hdi : i < fs0.length := by rw [← HLEN.out]; exact hil
          have hri : i < rs.length := by rw [HRL.out]; exact hil
          have hfdin : FdIn 0 wr fs[i] fs0[i] := by
            obtain ⟨e1, e2, e3, e4, e5, e6, e7⟩ := HFS.out.2.2 i hfi hdi
            refine ⟨e1, e2, e3, e4, e5, e6, fun h0 => ?_⟩
            obtain ⟨b', ee, _, h2, h3⟩ := e7 h0
            exact ⟨b', ee, Nat.zero_le _, by omega, (hb.block b' h2).trans h3⟩
          have hokf := HFOK.out fs0[i] (List.getElem_mem hdi)
          obtain ⟨bf, rfl, _, hbf2, hfrr⟩ := HFS.out.2.1 (by omega)
          obtain ⟨b, o, rfl, hbn, hrl⟩ := HINR.out (by omega)
          obtain ⟨c0, c1, c2, c3, c4, c5, c6, c7, c8⟩ := (hfrr.below hb hbf2).cells i hfi
          clear hfrr hfl
          have hval := HRI.out i hri hdi hil
          have hcase : ∀ W', Below wr.heap.size wr W' → Calls Tryz.prog 98 #[fs[i].val, l[i].val] W' (ValPost n₀ rs[i] W') := fun W' hW' => by
            rw [hval]
            have hbW := belOn hbw (by omega) hW'
            refine checked_all re fs[i] fs0[i] l[i] n₀ W' (by have := hbW.size; omega) ((HLS.out _ (List.getElem_mem hil)).keep hbW hn) ?_ hokf (fun _ _ h => HRE.out _ (List.getElem_mem hil) h) (fun W2 hW2 => HT.out W2 (belOn hbW (by have := hbW.size; omega) hW2))
            obtain ⟨e1, e2, e3, e4, e5, e6, e7⟩ := hfdin
            refine ⟨e1, e2, e3, e4, e5, e6, fun h0 => ?_⟩
            obtain ⟨b', ee, _, h2, h3⟩ := e7 h0
            exact ⟨b', ee, Nat.zero_le _, by have := hW'.size; omega, (hW'.block b' h2).trans h3⟩
          clear hfdin hval hokf
          generalize (fs[i]'hfi) = F at c0 c1 c2 c3 c4 c5 c6 c7 c8 hcase
          have hxi := hrl i hil
          generalize l[i] = X at hcase hxi
          obtain ⟨WR, hWR⟩ : ∃ WR, wr.alloc (.cells F.cs 66) = WR := ⟨_, rfl⟩
          have hsR : WR.heap.size = wr.heap.size + 1 := by rw [← hWR]; simp
          have hbR : Below w.heap.size w WR := by rw [← hWR]; exact bel1 hbw (by omega) _
          have hbR0 : Below W0.heap.size W0 WR := by rw [← hWR]; exact bel1 hb0r (by omega) _
          have hbR1 : Below w1.heap.size w1 WR := by rw [← hWR]; exact bel1 hb (by omega) _
          have hbRr : Below wr.heap.size wr WR := by rw [← hWR]; exact bel1 (Below.refl _ _) (Nat.le_refl _) _
          have xF : BoxF WR wr.heap.size F := by rw [← hWR]; exact World.alloc_heap_new _ _
          have HS : Hid (∀ W', Below WR.heap.size WR W' → (fun W' => W'.cell? ⟨w.heap.size, 1, none⟩ = some (.slice (some ⟨b, o, none⟩) l.length c) ∧ W'.cell? ⟨w1.heap.size, 1, none⟩ = some (.slice (some ⟨(w1.heap.size + 1), 0, none⟩) l.length l.length) ∧ W'.cell? ⟨b, o + i * 5, none⟩ = some (.int .i64 X.k) ∧ W'.cell? ⟨b, o + i * 5 + 1, none⟩ = some (.int .u64 X.n) ∧ W'.cell? ⟨b, o + i * 5 + 2, none⟩ = some (.string X.s) ∧ W'.cell? ⟨b, o + i * 5 + 3, none⟩ = some (.slice X.a X.l.length X.c) ∧ W'.cell? ⟨b, o + i * 5 + 4, none⟩ = some (.int .i64 X.e) ∧ W'.cell? ⟨wr.heap.size, 0, none⟩ = some (.string F.name) ∧ W'.cell? ⟨wr.heap.size, 1, none⟩ = some (.int .i64 F.ty) ∧ W'.cell? ⟨wr.heap.size, 2, none⟩ = some (.slice F.ka F.kl F.kc) ∧ W'.cell? ⟨wr.heap.size, 3, none⟩ = some (.bool F.must) ∧ W'.cell? ⟨wr.heap.size, 4, none⟩ = some (.int .i64 F.d.k) ∧ W'.cell? ⟨wr.heap.size, 5, none⟩ = some (.int .u64 F.d.n) ∧ W'.cell? ⟨wr.heap.size, 6, none⟩ = some (.string F.d.s) ∧ W'.cell? ⟨wr.heap.size, 7, none⟩ = some (.slice F.d.a F.d.l.length F.d.c) ∧ W'.cell? ⟨wr.heap.size, 8, none⟩ = some (.int .i64 F.d.e)) W') := by
            intro W' hb'
            have hbW := belOn hbR (by omega) hb'
            have hbW0 := belOn hbR0 (by omega) hb'
            have hbWr := belOn hbRr (by omega) hb'
            have e1 : ∀ o', W'.cell? ⟨b, o', none⟩ = w.cell? ⟨b, o', none⟩ := fun o' => hbW.cell (p := ⟨b, o', none⟩) (by show b < _; omega)
            obtain ⟨q0, q1, q2, q3, q4⟩ := hxi
            obtain ⟨g0, g1, g2, g3, g4, g5, g6, g7, g8⟩ := (xF.below hb' (by omega)).cells
            exact ⟨(xr.below hbW0 (by omega)).cells.2, (HXFr.out.below hbWr (by omega)).cells.2, (e1 _).trans q0, (e1 _).trans q1, (e1 _).trans q2, (e1 _).trans q3, (e1 _).trans q4, g0, g1, g2, g3, g4, g5, g6, g7, g8⟩
          have HSP : Hid (∀ W', Below WR.heap.size WR W' → ∀ y, (fun W' => W'.cell? ⟨w.heap.size, 1, none⟩ = some (.slice (some ⟨b, o, none⟩) l.length c) ∧ W'.cell? ⟨w1.heap.size, 1, none⟩ = some (.slice (some ⟨(w1.heap.size + 1), 0, none⟩) l.length l.length) ∧ W'.cell? ⟨b, o + i * 5, none⟩ = some (.int .i64 X.k) ∧ W'.cell? ⟨b, o + i * 5 + 1, none⟩ = some (.int .u64 X.n) ∧ W'.cell? ⟨b, o + i * 5 + 2, none⟩ = some (.string X.s) ∧ W'.cell? ⟨b, o + i * 5 + 3, none⟩ = some (.slice X.a X.l.length X.c) ∧ W'.cell? ⟨b, o + i * 5 + 4, none⟩ = some (.int .i64 X.e) ∧ W'.cell? ⟨wr.heap.size, 0, none⟩ = some (.string F.name) ∧ W'.cell? ⟨wr.heap.size, 1, none⟩ = some (.int .i64 F.ty) ∧ W'.cell? ⟨wr.heap.size, 2, none⟩ = some (.slice F.ka F.kl F.kc) ∧ W'.cell? ⟨wr.heap.size, 3, none⟩ = some (.bool F.must) ∧ W'.cell? ⟨wr.heap.size, 4, none⟩ = some (.int .i64 F.d.k) ∧ W'.cell? ⟨wr.heap.size, 5, none⟩ = some (.int .u64 F.d.n) ∧ W'.cell? ⟨wr.heap.size, 6, none⟩ = some (.string F.d.s) ∧ W'.cell? ⟨wr.heap.size, 7, none⟩ = some (.slice F.d.a F.d.l.length F.d.c) ∧ W'.cell? ⟨wr.heap.size, 8, none⟩ = some (.int .i64 F.d.e)) (put5 W' (w1.heap.size + 1) (i * 5) y)) := by
            intro W' hb' y
            have h := HS.out W' hb'
            have e : ∀ b' o', b' ≠ (w1.heap.size + 1) → (put5 W' (w1.heap.size + 1) (i * 5) y).cell? ⟨b', o', none⟩ = W'.cell? ⟨b', o', none⟩ := fun b' o' hne => put5_same _ _ _ _ _ hne o'
            simp only [e w.heap.size _ (by omega), e w1.heap.size _ (by omega), e b _ (by omega), e wr.heap.size _ (by omega)]
            exact h
          simp only [← put5_eq] at HSP
          have HB0 : Hid (Below WR.heap.size WR WR.drew) := (Below.refl _ _).drew
          have he := hcase WR.drew hbRr.drew
          rw [Fd.val_eq, V.val_eq] at he
          generalize hrr : rs[i] = r at he
          have HRRI := hide hrr
          have HE := hide he
          have HWR := hide hWR
          unfold Fd.cs at HWR
          have hbfr : bf < wr.heap.size := by omega
          have hbr : b < wr.heap.size := by omega
          have HZ : Hid (∀ W', Below WR.heap.size WR W' → Blk W' (w1.heap.size + 1) 42 (l.length * 5)) := fun W' hb' => (HKr.out.below hbRr (by omega)).below hb' (by omega)
          clear he hWR hcase hrr hxi hrl
          go_wp2_with fail
          rw [HWR.out]
          go_region_held (fun W' => W'.cell? ⟨w.heap.size, 1, none⟩ = some (.slice (some ⟨b, o, none⟩) l.length c) ∧ W'.cell? ⟨w1.heap.size, 1, none⟩ = some (.slice (some ⟨(w1.heap.size + 1), 0, none⟩) l.length l.length) ∧ W'.cell? ⟨b, o + i * 5, none⟩ = some (.int .i64 X.k) ∧ W'.cell? ⟨b, o + i * 5 + 1, none⟩ = some (.int .u64 X.n) ∧ W'.cell? ⟨b, o + i * 5 + 2, none⟩ = some (.string X.s) ∧ W'.cell? ⟨b, o + i * 5 + 3, none⟩ = some (.slice X.a X.l.length X.c) ∧ W'.cell? ⟨b, o + i * 5 + 4, none⟩ = some (.int .i64 X.e) ∧ W'.cell? ⟨wr.heap.size, 0, none⟩ = some (.string F.name) ∧ W'.cell? ⟨wr.heap.size, 1, none⟩ = some (.int .i64 F.ty) ∧ W'.cell? ⟨wr.heap.size, 2, none⟩ = some (.slice F.ka F.kl F.kc) ∧ W'.cell? ⟨wr.heap.size, 3, none⟩ = some (.bool F.must) ∧ W'.cell? ⟨wr.heap.size, 4, none⟩ = some (.int .i64 F.d.k) ∧ W'.cell? ⟨wr.heap.size, 5, none⟩ = some (.int .u64 F.d.n) ∧ W'.cell? ⟨wr.heap.size, 6, none⟩ = some (.string F.d.s) ∧ W'.cell? ⟨wr.heap.size, 7, none⟩ = some (.slice F.d.a F.d.l.length F.d.c) ∧ W'.cell? ⟨wr.heap.size, 8, none⟩ = some (.int .i64 F.d.e)) (first | with_reducible exact HS.out _ HB0.out | with_reducible exact HS.out _ HB2.out | with_reducible exact HSP.out _ HB2.out _) ((go_at_call 98; refine Calls.mono HE.out ?_; rintro e2 w2 ⟨yy, rfl, HY, hb2⟩; have HS3 := hide hb2.size; unfold VN; have HB2 : Hid (Below WR.heap.size WR w2) := belOn HB0.out HB0.out.size hb2; clear hb2; have hs2 := HB2.out.size; have hk2 := HZ.out _ HB2.out; obtain ⟨z0, y0⟩ := hk2.some (i * 5) (by omega); obtain ⟨z1, y1⟩ := hk2.some (i * 5 + 1) (by omega); obtain ⟨z2, y2⟩ := hk2.some (i * 5 + 2) (by omega); obtain ⟨z3, y3⟩ := hk2.some (i * 5 + 3) (by omega); obtain ⟨z4, y4⟩ := hk2.some (i * 5 + 4) (by omega); have fz := hk2.free; have hlw : (w1.heap.size + 1) < w2.heap.size := (by omega); have HK2 := hide hk2; clear hk2))
          all_goals
            have hbr2 : Below wr.heap.size wr w2 := belOn hbRr (by omega) HB2.out
            have hb12 : Below w1.heap.size w1 w2 := belOn hbR1 (by omega) HB2.out
            have hpb := put5_below (y := yy) (o := i * 5) (b := (w1.heap.size + 1)) hb12 (by omega)
            have hpk := put5_blk HK2.out (i * 5) yy
            have hpx : BoxR (put5 w2 (w1.heap.size + 1) (i * 5) yy) w1.heap.size kind (some ⟨(w1.heap.size + 1), 0, none⟩) l.length l.length := (put5_hp _ _ _ _ _ (by omega)).trans (HXFr.out.below hbr2 (by omega))
            have hps := put5_size w2 (w1.heap.size + 1) (i * 5) yy
            have hpm : r.2 = 0 → ∃ ys, Made n₀ W0.heap.size (w1.heap.size + 1) rs (i + 1) ys (put5 w2 (w1.heap.size + 1) (i * 5) yy) ∧ RowF (put5 w2 (w1.heap.size + 1) (i * 5) yy) (w1.heap.size + 1) (i + 1) (fun j => (ys[j]?).getD nul) := fun h0 => by
              have hyl : ys.length = i := HMADE.out.1
              refine ⟨ys ++ [yy], HMADE.out.push (fun b hb' => ?_) (by rw [hps]; omega) hri (by rw [HRRI.out]; exact HY.out.1) (by rw [HRRI.out]; exact h0) ?_, ?_⟩
              · intro o'
                have hbb : b < wr.heap.size ∧ b ≠ (w1.heap.size + 1) := by omega
                exact (put5_same _ _ _ _ _ hbb.2 o').trans (hbr2.cell (p := ⟨b, o', none⟩) hbb.1)
              · refine LiesIn.keep HY.out.2 (fun b hb' => put5_same _ _ _ _ _ ?_) (fun b hb' => ?_)
                · rcases hb' with h | h
                  · omega
                  · have : WR.drew.heap.size ≤ b := h.1; have : WR.drew.heap.size = WR.heap.size := rfl; omega
                · rw [hps]
                  rcases hb' with h | h
                  · exact .inl h
                  · have : WR.drew.heap.size ≤ b := h.1; have : WR.drew.heap.size = WR.heap.size := rfl; exact .inr ⟨by omega, h.2, by omega⟩
              · refine RowF.snoc (y := yy) HK2.out ((HRFr.out.below hbr2 (by omega)).eq (fun j hj => ?_)) (by omega) ?_
                · show _ = ((ys ++ [yy])[j]?).getD nul
                  rw [List.getElem?_append_left (by omega)]
                · show ((ys ++ [yy])[i]?).getD nul = yy
                  rw [List.getElem?_append_right (by omega), hyl]
                  simp
            have HBADI : Hid (r.2 ≠ 0 → R = (nul, r.2)) := fun hne => by
              rw [← HRW.out, rowT_bad hri (by rw [HRRI.out]; exact hne) HMADE.out.2.2.1, HRRI.out]
              unfold endT
              rw [if_pos hne]
            have hb0p := put5_below (y := yy) (o := i * 5) (b := (w1.heap.size + 1)) (belOn hb1 (by omega) hb12) (by omega)
            have hZP := HZ2.out _ hb0p
            have HBADP := hide (fun n e => HBAD.out (put5 w2 (w1.heap.size + 1) (i * 5) yy) n hb0p e)
            rw [← put5_eq] at hpb hpk hpx hps hpm hZP HBADP
            have HPB := hide hpb
            have HPK := hide hpk
            have HPX := hide hpx
            have HPM := hide hpm
            obtain ⟨z0', z1', z2', z3', z4', fz', hzw'⟩ := hZP
            clear hpb hpk hpx hpm hb0p
            generalize r.2 = rn at HBADI HPM
            by_cases hrn : rn = 0
            · subst hrn
              have HPM0 := hide (HPM.out rfl)
              clear HPM HBADI
              go_wp2
              go_roundw
              case rel => exact ⟨i + 1, by go_num, by omega, HPB.out, by omega, HPX.out, HPK.out, HPM0.out⟩
              case measure => simp [intOf]; omega
            · have hrb : (rn == 0) = false := by simpa using hrn
              have hrnn : (rn != 0) = true := by simpa using hrn
              have HBD := hide (HBADP.out _ (HBADI.out hrn))
              clear HPM HBADI HBADP
              go_wp2
              exact bodyPost_ret (v := .tuple #[.agg #[.int .i64 0, .int .u64 0, .string ⟨#[]⟩, .slice none 0 0, .int .i64 0], .int .i64 rn]) (by simp [results, Tryz.results35, go_sem, z0', z1', z2', z3', z4']) rfl HBD.out
        · have hie : i = l.length := by omega
          have hyl : ys.length = l.length := HMADE.out.1.trans hie
          have hrow : Row wr (w1.heap.size + 1) 0 ys := HRFr.out.row ys (by omega) (fun j hj => by simp [hj])
          have hmap : rs.map Prod.fst = V.ts ys := by
            refine List.ext_getElem? fun j => ?_
            rw [List.getElem?_map, V.ts_map, List.getElem?_map]
            by_cases hj : j < l.length
            · have h1 : j < rs.length := by rw [HRL.out]; exact hj
              have h2 : j < ys.length := by omega
              rw [List.getElem?_eq_getElem h1, List.getElem?_eq_getElem h2, Option.map_some, Option.map_some, HMADE.out.2.1 j h2 h1]
            · rw [List.getElem?_eq_none (by rw [HRL.out]; omega), List.getElem?_eq_none (by omega)]
              rfl
          have HRFIN : Hid (R = if 32 < T.dp (laidT kind (V.ts ys)) then (nul, 26) else (laidT kind (V.ts ys), 0)) := by
            rw [Hid, ← HRW.out, rowT_good (fun j hj => HMADE.out.2.2.1 j hj (by rw [HRL.out] at hj; omega)), hmap]
            unfold endT
            rw [if_neg (by simp)]
          subst hie
          have hlaid := laid_all (fun q => q < n₀ ∨ (W0.heap.size ≤ q ∧ q < wr.heap.size ∧ q ≠ (w1.heap.size + 1))) kind fs0 HFT.out ys (by rw [hyl, HLEN.out]) (w1.heap.size + 1) l.length (by omega) wr (fun q hq => by omega) (by omega) hrow (fun x hx => HMADE.out.2.2.2 x hx)
          rw [hyl] at hlaid
          have HLD := hide hlaid
          obtain ⟨x0, x1⟩ := HXFr.out.cells
          have hfw : w1.heap.size < wr.heap.size := by omega
          have HYL := hide hyl
          clear hlaid hrow hyl
          go_wp2_with fail
          refine HLD.out.mono ?_
          rintro e3 w3 ⟨a2, a3, c2, c3, rfl, HLV, hb3⟩
          have hs3 := hb3.size
          have hb03 : Below W0.heap.size W0 w3 := belOn hb0r (by omega) hb3
          have hbw3 : Below w.heap.size w w3 := belOn hb0 (by omega) hb03
          have htt := laid_t HFT.out ys a2 a3 c2 c3
          generalize hv : V.of 24 0 ⟨#[]⟩ a2 c2 0 [leaf 5 kind ⟨#[]⟩, .of 21 0 ⟨#[]⟩ a3 c3 0 ((outs ys (fs0.map FS.d)).take (saidN ys (fs0.map FS.d) ys.length))] = v at HLV htt
          have hvv : v.val = .agg #[.int .i64 24, .int .u64 0, .string ⟨#[]⟩, .slice a2 2 c2, .int .i64 0] := by rw [← hv, V.val_of]; rfl
          have hRv : R = if 32 < mx (v.all 1) then (nul, 26) else (laidT kind (V.ts ys), 0) := by
            rw [HRFIN.out, ← htt, dp_t]
            by_cases h32 : 32 < T.dp v
            · rw [if_pos h32, if_pos ((mx_deep v).2 h32)]
            · rw [if_neg h32, if_neg (fun h => h32 ((mx_deep v).1 h))]
          obtain ⟨W3, hW3⟩ : ∃ W3, w3.alloc (Obj.cells #[.int .i64 24, .int .u64 0, .string ⟨#[]⟩, .slice a2 2 c2, .int .i64 0] 42) = W3 := ⟨_, rfl⟩
          have hsW3 : W3.heap.size = w3.heap.size + 1 := by rw [← hW3]; simp
          have hb33 : Below w3.heap.size w3 W3 := by rw [← hW3]; exact bel1 (Below.refl _ _) (Nat.le_refl _) _
          have hx3 : W3.heap[w3.heap.size]? = some (.cells #[.int .i64 24, .int .u64 0, .string ⟨#[]⟩, .slice a2 2 c2, .int .i64 0] 42 (0, 0)) := by rw [← hW3]; exact World.alloc_heap_new _ _
          have hdep := depth_any v w3.heap.size W3 (by omega) (LiesIn.keep HLV.out (fun b' hq o' => hb33.cell (p := ⟨b', o', none⟩) (by show b' < _; omega)) (fun b' hq => by omega))
          rw [hvv] at hdep
          generalize mx (v.all 1) = dpt at hdep hRv
          have HDE := hide hdep
          have HW3 := hide hW3
          have HV := hide hv
          have HRV := hide hRv
          have HTT := hide htt
          clear hdep hW3 hv hRv htt HRFIN
          go_wp2_with fail
          rw [HW3.out]
          refine HDE.out.mono ?_
          rintro e4 w4 ⟨rfl, hb4⟩
          have hs4 := hb4.size
          have hb34 : Below w3.heap.size w3 w4 := hb33.trans (hb4.mono (by omega))
          have hb04 : Below W0.heap.size W0 w4 := belOn hb03 (by omega) hb34
          have hbw4 : Below w.heap.size w w4 := belOn hb0 (by omega) hb04
          obtain ⟨z0, z1, z2, z3, z4, fz, hz5⟩ := HZ2.out _ hb04
          by_cases hgt : 32 < dpt
          · have HRK : Hid (R = (nul, 26)) := by rw [Hid, HRV.out, if_pos hgt]
            clear HRV
            go_wp2
            exact bodyPost_ret (v := .tuple #[.agg #[.int .i64 0, .int .u64 0, .string ⟨#[]⟩, .slice none 0 0, .int .i64 0], .int .i64 26]) (by simp [results, Tryz.results35, go_sem, z0, z1, z2, z3, z4]) rfl (HBAD.out _ _ hb04 HRK.out)
          · have HRK : Hid (R = (laidT kind (V.ts ys), 0)) := by rw [Hid, HRV.out, if_neg hgt]
            have hx4 := (hb4.block w3.heap.size (by omega)).trans hx3
            have o0 : w4.cell? ⟨w3.heap.size, 0, none⟩ = some (.int .i64 24) := by unfold World.cell?; simp only [hx4]; rfl
            have o1 : w4.cell? ⟨w3.heap.size, 1, none⟩ = some (.int .u64 0) := by unfold World.cell?; simp only [hx4]; rfl
            have o2 : w4.cell? ⟨w3.heap.size, 2, none⟩ = some (.string ⟨#[]⟩) := by unfold World.cell?; simp only [hx4]; rfl
            have o3 : w4.cell? ⟨w3.heap.size, 3, none⟩ = some (.slice a2 2 c2) := by unfold World.cell?; simp only [hx4]; rfl
            have o4 : w4.cell? ⟨w3.heap.size, 4, none⟩ = some (.int .i64 0) := by unfold World.cell?; simp only [hx4]; rfl
            have hz6 : w3.heap.size < w4.heap.size := by omega
            have hend : ValPost n₀ R w (VN v 0) (put5 w4 (w.heap.size + 1) 0 v) := by
              rw [HRK.out]
              refine ⟨v, rfl, ⟨HTT.out, LiesIn.keep HLV.out (fun b' hq o' => (put5_same _ _ _ _ _ (by omega) o').trans (hb34.cell (p := ⟨b', o', none⟩) (by show b' < _; omega))) (fun b' hq => ?_)⟩, put5_below hbw4 (by omega)⟩
              rw [put5_size]
              rcases hq with (h | h) | h
              · exact .inl h
              · exact .inr ⟨by omega, by omega⟩
              · exact .inr ⟨by omega, by omega⟩
            have hvn : VN v 0 = .returned (.tuple #[.agg #[.int .i64 24, .int .u64 0, .string ⟨#[]⟩, .slice a2 2 c2, .int .i64 0], .int .i64 0]) := by
              show Ending.returned (.tuple #[v.val, .int .i64 0]) = _
              rw [hvv]
            rw [hvn, ← HV.out, ← put5_of] at hend
            have hend' : ValPost n₀ R w (.returned (.tuple #[.agg #[.int .i64 24, .int .u64 0, .string ⟨#[]⟩, .slice a2 2 c2, .int .i64 0], .int .i64 0])) (((((w4.setCell ⟨w.heap.size + 1, 0, none⟩ (.int .i64 24)).setCell ⟨w.heap.size + 1, 1, none⟩ (.int .u64 0)).setCell ⟨w.heap.size + 1, 2, none⟩ (.string ⟨#[]⟩)).setCell ⟨w.heap.size + 1, 3, none⟩ (.slice a2 2 c2)).setCell ⟨w.heap.size + 1, 4, none⟩ (.int .i64 0)) := hend
            have HEND := hide hend'
            clear hend hend' hvn HRK HRV hx4 hx3
            go_wp2
            exact bodyPost_ret (v := .tuple #[.agg #[.int .i64 24, .int .u64 0, .string ⟨#[]⟩, .slice a2 2 c2, .int .i64 0], .int .i64 0]) (by simp [results, Tryz.results35, go_sem, z0, z1, z2, z3, z4]) rfl HEND.out
end Go.Proofs.YtgldcchleoklcaaGreatDoor
