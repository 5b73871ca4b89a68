/- HCopy, HUnp, HUnpack -/
import Derived.Test.YtgldcchleoklcaaGreatDoorF14
import Derived.Test.YtgldcchleoklcaaGreatDoorF09
import Derived.Test.YtgldcchleoklcaaGreatDoorF25
import Derived.Test.YtgldcchleoklcaaGreatDoorF19
import Derived.Laws.CopyRow
import Derived.Laws.CopyOwn
import Derived.Laws.Tables
namespace Go.Proofs.YtgldcchleoklcaaGreatDoor
open Go.RowKit
set_option linter.unusedVariables false
set_option linter.unusedSimpArgs false
theorem run_copy5 (w : World) (ty : TypeId) (g dLen dCap : Nat) (a : Addr) (sLen sCap : Nat) (cur : Array Value) (t : TypeId) (cs : List Value)
    (hg : w.heap[g]? = some (.cells cur t (0, 0))) (hn : cs.length = Nat.min sLen dLen * 5)
    (hsrc : ∀ j v, cs[j]? = some v → w.cell? (a.add j) = some v) (hfit : cs.length ≤ cur.size) (h1 : ∀ v ∈ cs, v.oneCell' = true) :
    (Builtin.copy_ #[31, 31] ty #[.slice (some ⟨g, 0, none⟩) dLen dCap, .slice (some a) sLen sCap]).run Tryz.prog w =
      .ok (goInt (Nat.min sLen dLen)) (w.setRow g (cs ++ cur.toList.drop cs.length).toArray) := by
  have hl := run_loadCells_list (P := Tryz.prog) w a cs hsrc
  have hst := run_storeCells_at Tryz.prog g 0 t cs 0 cur w hg (by simpa using hfit) h1
  have hs : (Tryz.prog.info? 42).map (·.size) = some 5 := by kernel_rfl
  cases hq : Tryz.prog.info? 42 with
  | none => rw [hq] at hs; cases hs
  | some i =>
    have hi : i.size = 5 := by rw [hq] at hs; exact Option.some.inj hs
    rw [hn] at hl
    simp [Builtin.copy_, run_underlying Tryz.underlying31, Builtin.lenOf, Builtin.firstCells, sizeOf, typeInfo, hq, hi, hl, hst]
theorem flat_one (l : List V) : ∀ u ∈ flat l, u.oneCell' = true := by
  intro u hu
  obtain ⟨j, hj⟩ := List.mem_iff_getElem?.1 hu
  have hl : j < (flat l).length := (List.getElem?_eq_some_iff.1 hj).1
  rw [flat_length] at hl
  have hg := flat_get l (j / 5) (j % 5) (by omega) (by omega)
  rw [show j / 5 * 5 + j % 5 = j by omega, hj] at hg
  exact V.words_one _ u (List.mem_of_getElem? hg.symm)
theorem copy_vals (w : World) (ty : TypeId) (g n b o sc : Nat) (th : List V) (hn : th.length ≤ n) (hk : Blk w g 42 (n * 5)) (hrow : Row w b o th) (hz : RowF w g n (fun _ => leaf 0 0 ⟨#[]⟩)) :
    ∃ w', (Builtin.copy_ #[31, 31] ty #[.slice (some ⟨g, 0, none⟩) n n, .slice (some ⟨b, o, none⟩) th.length sc]).run Tryz.prog w = .ok (goInt th.length) w' ∧
      Blk w' g 42 (n * 5) ∧ RowF w' g n (fun j => (th[j]?).getD (leaf 0 0 ⟨#[]⟩)) ∧ w'.heap.size = w.heap.size ∧ (∀ k, k ≠ g → w'.heap[k]? = w.heap[k]?) ∧ ∀ B w0, Below B w0 w → B ≤ g → Below B w0 w' := by
  obtain ⟨cur, hc, hs⟩ := hk
  have hmin : Nat.min th.length n = th.length := Nat.min_eq_left hn
  have hcl : (flat th).length = th.length * 5 := flat_length th
  have hrun := run_copy5 w ty g n n ⟨b, o, none⟩ th.length sc cur 42 (flat th) hc (by rw [hmin, hcl]) (fun j v hj => by
    have hl : j < (flat th).length := (List.getElem?_eq_some_iff.1 hj).1
    rw [hcl] at hl
    have hg := flat_get th (j / 5) (j % 5) (by omega) (by omega)
    rw [show j / 5 * 5 + j % 5 = j by omega, hj] at hg
    have hr := hrow (j / 5) (by omega)
    have ha : (⟨b, o, none⟩ : Addr).add j = ⟨b, o + j, none⟩ := by simp [Addr.add]
    rw [ha, hg]
    obtain ⟨h0, h1, h2, h3, h4⟩ := hr
    have hq : j % 5 = 0 ∨ j % 5 = 1 ∨ j % 5 = 2 ∨ j % 5 = 3 ∨ j % 5 = 4 := by omega
    rcases hq with h | h | h | h | h <;> rw [h]
    · rw [show o + j = o + j / 5 * 5 by omega]; exact h0
    · rw [show o + j = o + j / 5 * 5 + 1 by omega]; exact h1
    · rw [show o + j = o + j / 5 * 5 + 2 by omega]; exact h2
    · rw [show o + j = o + j / 5 * 5 + 3 by omega]; exact h3
    · rw [show o + j = o + j / 5 * 5 + 4 by omega]; exact h4) (by rw [hcl, hs]; exact Nat.mul_le_mul_right 5 hn) (flat_one th)
  rw [hmin] at hrun
  refine ⟨_, hrun, ?_, ?_, by simp, fun k hk => setRow_other _ _ _ _ hk, fun B w0 h1 h2 => below_setRow h1 h2 _⟩
  · refine ⟨_, setRow_heap _ _ _ _ _ _ hc, ?_⟩
    simp only [List.size_toArray, List.length_append, List.length_drop, Array.length_toList]
    rw [hcl, hs]
    have := Nat.mul_le_mul_right 5 hn
    omega
  · intro j hj q hq
    show _ = (words ((th[j]?).getD (leaf 0 0 ⟨#[]⟩)))[q]?
    rw [cell_setRow_same _ _ _ _ _ _ _ hc, List.getElem?_toArray]
    by_cases h : j < th.length
    · rw [List.getElem?_append_left (by rw [hcl]; omega), flat_get th j q h hq, List.getElem?_eq_getElem h]
      rfl
    · have hth : th[j]? = none := List.getElem?_eq_none (by omega)
      rw [hth, List.getElem?_append_right (by rw [hcl]; omega), List.getElem?_drop, hcl]
      have h5 : w.cell? ⟨g, j * 5 + q, none⟩ = (words (leaf 0 0 ⟨#[]⟩))[q]? := hz j hj q hq
      rw [show th.length * 5 + (j * 5 + q - th.length * 5) = j * 5 + q by omega]
      show _ = (words (leaf 0 0 ⟨#[]⟩))[q]?
      rw [← h5]
      unfold World.cell?
      simp only [hc]
      simp
set_option maxRecDepth 100000 in
set_option maxHeartbeats 20000000 in
theorem unpacked_gen (kind : Int) (vn : Int) (vs : ByteArray) (va : Option Addr) (vc : Nat) (ve : Int) (d0 : V) (ln : Int) (lsb : ByteArray) (lb lo lc : Nat) (le : Int) (th ys : List V) (ms : List (Int × Bool × V)) (N n₀ : Nat) (hd : ms.length = N) (hy : ys.length = N) (hth : th.length ≤ N) (h0 : 0 < N) (hcc : N ≤ 1000) (w : World) (hn : n₀ ≤ w.heap.size)
    (hl : Lies n₀ w (.of 24 vn vs va vc ve [d0, .of 21 ln lsb (some ⟨lb, lo, none⟩) lc le th])) (hrow : lb < n₀ ∧ Row w lb lo th)
    (hkd : kindL d0.t krows = some kind)
    (hF : ∀ W, Below w.heap.size w W → Calls Tryz.prog 8 #[.int .i64 kind] W (FieldsLike N ms W))
    (hC : ∀ i (h2 : i < ms.length) (h3 : i < ys.length), ∀ F : Fd, F.m = ms[i] → ∀ W, Below w.heap.size w W → Calls Tryz.prog 106 #[F.val, ((th[i]?).getD (leaf 0 0 ⟨#[]⟩)).val] W fun e w' => e = VN ys[i] 0 ∧ Below W.heap.size W w') :
    Calls Tryz.prog 43 #[(V.of 24 vn vs va vc ve [d0, .of 21 ln lsb (some ⟨lb, lo, none⟩) lc le th]).val] w (fun e w' => ∃ L, e = .returned (.tuple #[.agg #[.int .i64 kind, .slice (some ⟨L, 0, none⟩) N N], .int .i64 0, .int .i64 0]) ∧ Hid (w.heap.size ≤ L ∧ L < w'.heap.size ∧ Row w' L 0 ys) ∧ Below w.heap.size w w') := by
  obtain ⟨vb, vo, hva, hvlt, hvr⟩ := hl.row (by simp)
  subst hva
  rw [V.val_of]
  obtain ⟨W0, hW0⟩ : ∃ W0, (w.alloc (Obj.cells #[.int .i64 24, .int .u64 vn, .string vs, .slice (some ⟨vb, vo, none⟩) 2 vc, .int .i64 ve] 42)).alloc (Obj.cells #[.int .i64 0, .slice none 0 0] 33) = W0 := ⟨_, rfl⟩
  have hs0 : W0.heap.size = w.heap.size + 2 := by rw [← hW0]; simp
  have hb0 : Below w.heap.size w W0 := by rw [← hW0]; exact bel2 (Below.refl _ _) (Nat.le_refl _) _ _
  have xv : W0.heap[w.heap.size]? = some (.cells #[.int .i64 24, .int .u64 vn, .string vs, .slice (some ⟨vb, vo, none⟩) 2 vc, .int .i64 ve] 42 (0, 0)) := by rw [← hW0]; exact heap_past (World.alloc_heap_new _ _) _
  have xz : BoxR W0 (w.heap.size + 1) 0 none 0 0 := by rw [← hW0]; exact heap_at1 _ _ _
  have hkk := kind_any (.of 24 vn vs (some ⟨vb, vo, none⟩) vc ve [d0, .of 21 ln lsb (some ⟨lb, lo, none⟩) lc le th]) n₀ W0 (by omega) (hl.keep hb0 hn)
  rw [V.val_of, V.k_of, V.l_of, kindV_two, hkd] at hkk
  unfold KindPost at hkk
  have hv1 := hvr 1 (by simp)
  obtain ⟨q0, _, _, q3, _⟩ := hv1
  have q0' : w.cell? ⟨vb, vo + 5, none⟩ = some (.int .i64 21) := q0
  have q3' : w.cell? ⟨vb, vo + 5 + 3, none⟩ = some (.slice (some ⟨lb, lo, none⟩) th.length lc) := by
    have e : ([d0, V.of 21 ln lsb (some ⟨lb, lo, none⟩) lc le th] : List V)[1] = V.of 21 ln lsb (some ⟨lb, lo, none⟩) lc le th := rfl
    have := q3
    rw [e, V.l_of] at this
    exact this
  have HQ := hide (show w.cell? ⟨vb, vo + 5, none⟩ = some (.int .i64 21) ∧ w.cell? ⟨vb, vo + 5 + 3, none⟩ = some (.slice (some ⟨lb, lo, none⟩) th.length lc) from ⟨q0', q3'⟩)
  have HKK : Hid (Calls Tryz.prog 105 #[.agg #[.int .i64 24, .int .u64 vn, .string vs, .slice (some ⟨vb, vo, none⟩) 2 vc, .int .i64 ve]] W0 fun e w' => e = .returned (.tuple #[.int .i64 kind, .bool true]) ∧ Below W0.heap.size W0 w') := hkk
  have HF := hide hF
  have HC := hide hC
  have HD := hide hd
  have HY := hide hy
  have HROW := hide hrow
  have hlb : lb < w.heap.size := by omega
  have HW0 := hide hW0
  show Calls Tryz.prog 43 #[.agg #[.int .i64 24, .int .u64 vn, .string vs, .slice (some ⟨vb, vo, none⟩) 2 vc, .int .i64 ve]] w _
  clear hW0 hF hd hy hC hkk hvr q0 q3 q0' q3' hl hrow hkd
  go_enter Tryz.func43, Tryz.ntmps43
  go_wp2_with fail
  rw [HW0.out]
  clear HW0
  refine HKK.out.mono ?_
  rintro e1 w1 ⟨rfl, hb1⟩
  have hs1 := hb1.size
  have hbw1 : Below w.heap.size w w1 := belOn hb0 (by omega) hb1
  have HB1 := hide hb1
  go_wp2_with fail
  refine (HF.out _ hbw1).mono ?_
  rintro e2 w2 ⟨af, fs, rfl, HFS, hb2⟩
  have hs2 := hb2.size
  have hb02 : Below W0.heap.size W0 w2 := belOn hb1 hs1 hb2
  have hbw2 : Below w.heap.size w w2 := belOn hb0 (by omega) hb02
  obtain ⟨⟨hfd, hfl⟩, hff⟩ := HFS.out
  obtain ⟨bf, rfl, hbf1, hbf2, hfr⟩ := hff h0
  have HFR := hide hfr
  have HFD := hide hfd
  have HFL := hide hfl
  have hxv := (hb02.block w.heap.size (by omega)).trans xv
  have p3 : w2.cell? ⟨w.heap.size, 3, none⟩ = some (.slice (some ⟨vb, vo, none⟩) 2 vc) := by unfold World.cell?; simp only [hxv]; rfl
  have u0 : w2.cell? ⟨vb, vo + 5, none⟩ = some (.int .i64 21) := (hbw2.cell (p := ⟨vb, vo + 5, none⟩) (by show vb < _; omega)).trans HQ.out.1
  have u3 : w2.cell? ⟨vb, vo + 5 + 3, none⟩ = some (.slice (some ⟨lb, lo, none⟩) th.length lc) := (hbw2.cell (p := ⟨vb, vo + 5 + 3, none⟩) (by show vb < _; omega)).trans HQ.out.2
  have hw2 : w.heap.size < w2.heap.size := by omega
  have hvb2 : vb < w2.heap.size := by omega
  have hle : ¬ ((N : Int) < (th.length : Int)) := by omega
  have hmk := run_makeV N N (Nat.le_refl _) (by omega)
  clear hfr hff hfd hfl HFS hxv
  go_wp2
  obtain ⟨WA, hWA⟩ : ∃ WA, (w2.alloc (Obj.cells (madeCells zeroV (N * 5)) 42)).alloc (Obj.cells #[.int .i64 kind, .slice (some ⟨w2.heap.size, 0, none⟩) N N] 33) = WA := ⟨_, rfl⟩
  have hsA : WA.heap.size = w2.heap.size + 2 := by rw [← hWA]; simp
  have hb2A : Below w2.heap.size w2 WA := by rw [← hWA]; exact bel2 (Below.refl _ _) (Nat.le_refl _) _ _
  have hkA : Blk WA w2.heap.size 42 (N * 5) := by
    have : Blk (w2.alloc (Obj.cells (madeCells zeroV (N * 5)) 42)) w2.heap.size 42 (N * 5) := Blk.made _ _ _ _
    rw [← hWA]
    exact this.below (bel1 (Below.refl _ _) (Nat.le_refl _) _) (by simp)
  have hzA : RowF WA w2.heap.size N (fun _ => leaf 0 0 ⟨#[]⟩) := by
    rw [← hWA]
    exact (RowF.made w2 N).below (bel1 (Below.refl _ _) (Nat.le_refl _) _) (by simp)
  have hxA : BoxR WA (w2.heap.size + 1) kind (some ⟨w2.heap.size, 0, none⟩) N N := by rw [← hWA]; exact heap_at1 _ _ _
  have hrA : Row WA lb lo th := (HROW.out.2.below hbw2 hlb).below hb2A (by omega)
  obtain ⟨W1, hcp, hk1', hrf1, hsz1, hot1, hbl1⟩ := copy_vals WA 3 w2.heap.size N lb lo lc th hth hkA hrA hzA
  have hb21 : Below w2.heap.size w2 W1 := hbl1 _ _ hb2A (Nat.le_refl _)
  have hx1 : BoxR W1 (w2.heap.size + 1) kind (some ⟨w2.heap.size, 0, none⟩) N N := (hot1 _ (by omega)).trans hxA
  have hfr1 : FRow W1 bf fs := HFR.out.below hb21 hbf2
  have hb01 : Below W0.heap.size W0 W1 := belOn hb02 (by omega) hb21
  have hsW1 : W1.heap.size = w2.heap.size + 2 := by omega
  rw [hWA, hcp]
  have HFR1 := hide hfr1
  have HK1 := hide hk1'
  have HX1 := hide hx1
  have HRF1 := hide hrf1
  clear hWA hcp hmk hfr1 hk1' hx1 hrf1 hkA hzA hxA hrA hot1 hbl1 p3 u0 u3 hle
  go_wp2
  go_loopw [59] (fun u wr => ∃ (i : Nat), u = .int .i64 i ∧ i ≤ N ∧ Below W0.heap.size W0 wr ∧ W1.heap.size ≤ wr.heap.size ∧ Hid (FRow wr bf fs) ∧ Hid (BoxR wr (w2.heap.size + 1) kind (some ⟨w2.heap.size, 0, none⟩) N N) ∧ Hid (Blk wr w2.heap.size 42 (N * 5)) ∧ Hid (RowF wr w2.heap.size N (fun j => if j < i then (ys[j]?).getD (leaf 0 0 ⟨#[]⟩) else (th[j]?).getD (leaf 0 0 ⟨#[]⟩)))) (fun u _ => N + 1 - (intOf u).toNat)
  case atStart => exact ⟨0, rfl, Nat.zero_le _, hb01, Nat.le_refl _, HFR1, HX1, HK1, HRF1.out.eq (fun j _ => by simp)⟩
  case round =>
    obtain ⟨i, rfl, hi, hb, hsz, HFRr, HXFr, HKr, HRFr⟩ := hrel
    have hsb := hb.size
    have hbw : Below w.heap.size w wr := belOn hb0 (by omega) hb
    by_cases hil : i < N
    · have hfi : i < fs.length := by rw [HFL.out]; exact hil
      have hdi : i < ms.length := by rw [HD.out]; exact hil
      have hyi : i < ys.length := by rw [HY.out]; exact hil
      have hF0 : (fs[i]'hfi).m = ms[i]'hdi := by
        have h1 : (fs.map Fd.m)[i]? = ms[i]? := by rw [HFD.out]
        rw [List.getElem?_map, List.getElem?_eq_getElem hfi, List.getElem?_eq_getElem hdi] at h1
        exact Option.some.inj h1
      obtain ⟨c0, c1, c2, c3, c4, c5, c6, c7, c8⟩ := HFRr.out.cells i hfi
      generalize (fs[i]'hfi) = F at c0 c1 c2 c3 c4 c5 c6 c7 c8 hF0
      have he := HC.out i hdi hyi F hF0
      have hxi : ∀ q, q < 5 → wr.cell? ⟨w2.heap.size, i * 5 + q, none⟩ = (words ((th[i]?).getD (leaf 0 0 ⟨#[]⟩)))[q]? := fun q hq => by
        have h := HRFr.out i hil q hq
        simp only [Nat.lt_irrefl, if_false] at h
        exact h
      generalize (th[i]?).getD (leaf 0 0 ⟨#[]⟩) = X at he hxi
      obtain ⟨WR, hWR⟩ : ∃ WR, wr.alloc (.cells F.cs 66) = WR := ⟨_, rfl⟩
      have hsR : WR.heap.size = wr.heap.size + 1 := by rw [← hWR]; simp
      have hbR : Below w.heap.size w WR := by rw [← hWR]; exact bel1 hbw (by omega) _
      have hbR0 : Below W0.heap.size W0 WR := by rw [← hWR]; exact bel1 hb (by omega) _
      have hbRr : Below wr.heap.size wr WR := by rw [← hWR]; exact bel1 (Below.refl _ _) (Nat.le_refl _) _
      have xF : BoxF WR wr.heap.size F := by rw [← hWR]; exact World.alloc_heap_new _ _
      have hxr : ∀ q, WR.cell? ⟨w2.heap.size, i * 5 + q, none⟩ = wr.cell? ⟨w2.heap.size, i * 5 + q, none⟩ := fun q => hbRr.cell (p := ⟨w2.heap.size, i * 5 + q, none⟩) (by show w2.heap.size < _; omega)
      have x0 : WR.cell? ⟨w2.heap.size, i * 5, none⟩ = some (.int .i64 X.k) := (hxr 0).trans (hxi 0 (by omega))
      have x1 : WR.cell? ⟨w2.heap.size, i * 5 + 1, none⟩ = some (.int .u64 X.n) := (hxr 1).trans (hxi 1 (by omega))
      have x2 : WR.cell? ⟨w2.heap.size, i * 5 + 2, none⟩ = some (.string X.s) := (hxr 2).trans (hxi 2 (by omega))
      have x3 : WR.cell? ⟨w2.heap.size, i * 5 + 3, none⟩ = some (.slice X.a X.l.length X.c) := (hxr 3).trans (hxi 3 (by omega))
      have x4 : WR.cell? ⟨w2.heap.size, i * 5 + 4, none⟩ = some (.int .i64 X.e) := (hxr 4).trans (hxi 4 (by omega))
      have hLR : w2.heap.size < WR.heap.size := by omega
      have HS : Hid (∀ W', Below WR.heap.size WR W' → (fun W' => W'.cell? ⟨(w2.heap.size + 1), 1, none⟩ = some (.slice (some ⟨w2.heap.size, 0, none⟩) N N) ∧ W'.cell? ⟨wr.heap.size, 0, none⟩ = some (.string F.name) ∧ W'.cell? ⟨wr.heap.size, 1, none⟩ = some (.int .i64 F.ty) ∧ W'.cell? ⟨wr.heap.size, 2, none⟩ = some (.slice F.ka F.kl F.kc) ∧ W'.cell? ⟨wr.heap.size, 3, none⟩ = some (.bool F.must) ∧ W'.cell? ⟨wr.heap.size, 4, none⟩ = some (.int .i64 F.d.k) ∧ W'.cell? ⟨wr.heap.size, 5, none⟩ = some (.int .u64 F.d.n) ∧ W'.cell? ⟨wr.heap.size, 6, none⟩ = some (.string F.d.s) ∧ W'.cell? ⟨wr.heap.size, 7, none⟩ = some (.slice F.d.a F.d.l.length F.d.c) ∧ W'.cell? ⟨wr.heap.size, 8, none⟩ = some (.int .i64 F.d.e)) W') := by
        intro W' hb'
        have hbWr := belOn hbRr (by omega) hb'
        obtain ⟨g0, g1, g2, g3, g4, g5, g6, g7, g8⟩ := (xF.below hb' (by omega)).cells
        exact ⟨(HXFr.out.below hbWr (by omega)).cells.2, g0, g1, g2, g3, g4, g5, g6, g7, g8⟩
      have HSP : Hid (∀ W', Below WR.heap.size WR W' → ∀ y, (fun W' => W'.cell? ⟨(w2.heap.size + 1), 1, none⟩ = some (.slice (some ⟨w2.heap.size, 0, none⟩) N N) ∧ W'.cell? ⟨wr.heap.size, 0, none⟩ = some (.string F.name) ∧ W'.cell? ⟨wr.heap.size, 1, none⟩ = some (.int .i64 F.ty) ∧ W'.cell? ⟨wr.heap.size, 2, none⟩ = some (.slice F.ka F.kl F.kc) ∧ W'.cell? ⟨wr.heap.size, 3, none⟩ = some (.bool F.must) ∧ W'.cell? ⟨wr.heap.size, 4, none⟩ = some (.int .i64 F.d.k) ∧ W'.cell? ⟨wr.heap.size, 5, none⟩ = some (.int .u64 F.d.n) ∧ W'.cell? ⟨wr.heap.size, 6, none⟩ = some (.string F.d.s) ∧ W'.cell? ⟨wr.heap.size, 7, none⟩ = some (.slice F.d.a F.d.l.length F.d.c) ∧ W'.cell? ⟨wr.heap.size, 8, none⟩ = some (.int .i64 F.d.e)) (put5 W' w2.heap.size (i * 5) y)) := by
        intro W' hb' y
        have h := HS.out W' hb'
        have e : ∀ b' o', b' ≠ w2.heap.size → (put5 W' w2.heap.size (i * 5) y).cell? ⟨b', o', none⟩ = W'.cell? ⟨b', o', none⟩ := fun b' o' hne => put5_same _ _ _ _ _ hne o'
        simp only [e (w2.heap.size + 1) _ (by omega), e wr.heap.size _ (by omega)]
        exact h
      simp only [← put5_eq] at HSP
      have HB0 : Hid (Below WR.heap.size WR WR.drew) := (Below.refl _ _).drew
      have he := he WR.drew hbR.drew
      rw [Fd.val_eq, V.val_eq] at he
      unfold VN at he
      have HE := hide he
      have HWR := hide hWR
      unfold Fd.cs at HWR
      have hbfr : bf < wr.heap.size := by omega
      have HZ : Hid (∀ W', Below WR.heap.size WR W' → Blk W' w2.heap.size 42 (N * 5)) := fun W' hb' => (HKr.out.below hbRr (by omega)).below hb' (by omega)
      have hmx : Tryz.prog.follows .mixedOrders = true := by kernel_rfl
      clear he hWR hF0 hxi hxr
      go_wp2_with fail
      rw [HWR.out]
      refine wp_region_held_drew (S := (fun W' => W'.cell? ⟨(w2.heap.size + 1), 1, none⟩ = some (.slice (some ⟨w2.heap.size, 0, none⟩) N N) ∧ W'.cell? ⟨wr.heap.size, 0, none⟩ = some (.string F.name) ∧ W'.cell? ⟨wr.heap.size, 1, none⟩ = some (.int .i64 F.ty) ∧ W'.cell? ⟨wr.heap.size, 2, none⟩ = some (.slice F.ka F.kl F.kc) ∧ W'.cell? ⟨wr.heap.size, 3, none⟩ = some (.bool F.must) ∧ W'.cell? ⟨wr.heap.size, 4, none⟩ = some (.int .i64 F.d.k) ∧ W'.cell? ⟨wr.heap.size, 5, none⟩ = some (.int .u64 F.d.n) ∧ W'.cell? ⟨wr.heap.size, 6, none⟩ = some (.string F.d.s) ∧ W'.cell? ⟨wr.heap.size, 7, none⟩ = some (.slice F.d.a F.d.l.length F.d.c) ∧ W'.cell? ⟨wr.heap.size, 8, none⟩ = some (.int .i64 F.d.e))) (by kernel_rfl) (HS.out _ HB0.out) (fun hHeld => ?_)
      refine take_do (i := 0) (d := 65) (v := ?_) rfl rfl (by kernel_rfl) (by kernel_rfl) (by kernel_rfl) (fun _ _ _ h => h) rfl ?_ (by assumption) ?_
      rotate_left
      · intro w hSw
        try dsimp only at hSw
        go_simp
        try with_reducible rfl
      try simp only [List.setIfInBounds_toArray, List.set_cons_zero, List.set_cons_succ]
      refine take_do (i := 1) (d := 66) (v := ?_) rfl rfl (by kernel_rfl) (by kernel_rfl) (by kernel_rfl) (fun _ _ _ h => h) rfl ?_ (by assumption) ?_
      rotate_left
      · intro w hSw
        try dsimp only at hSw
        go_simp
        try with_reducible rfl
      try simp only [List.setIfInBounds_toArray, List.set_cons_zero, List.set_cons_succ]
      refine take_do (i := 2) (d := 67) (v := ?_) rfl rfl (by kernel_rfl) (by kernel_rfl) (by kernel_rfl) (fun _ _ _ h => h) rfl ?_ (by assumption) ?_
      rotate_left
      · intro w hSw
        try dsimp only at hSw
        go_simp
        try with_reducible rfl
      try simp only [List.setIfInBounds_toArray, List.set_cons_zero, List.set_cons_succ]
      refine take_do (i := 3) (d := 68) (v := ?_) rfl rfl (by kernel_rfl) (by kernel_rfl) (by kernel_rfl) (fun _ _ _ h => h) rfl ?_ (by assumption) ?_
      rotate_left
      · intro w hSw
        try dsimp only at hSw
        go_simp
        try with_reducible rfl
      try simp only [List.setIfInBounds_toArray, List.set_cons_zero, List.set_cons_succ]
      refine take_do (i := 4) (d := 69) (v := ?_) rfl rfl (by kernel_rfl) (by kernel_rfl) (by kernel_rfl) (fun _ _ _ h => h) rfl ?_ (by assumption) ?_
      rotate_left
      · intro w hSw
        try dsimp only at hSw
        go_simp
        try with_reducible rfl
      try simp only [List.setIfInBounds_toArray, List.set_cons_zero, List.set_cons_succ]
      refine take_do (i := 5) (d := 70) (v := ?_) rfl rfl (by kernel_rfl) (by kernel_rfl) (by kernel_rfl) (fun _ _ _ h => h) rfl ?_ (by assumption) ?_
      rotate_left
      · intro w hSw
        try dsimp only at hSw
        go_simp
        try with_reducible rfl
      try simp only [List.setIfInBounds_toArray, List.set_cons_zero, List.set_cons_succ]
      refine take_do (i := 6) (d := 71) (v := ?_) rfl rfl (by kernel_rfl) (by kernel_rfl) (by kernel_rfl) (fun _ _ _ h => h) rfl ?_ (by assumption) ?_
      rotate_left
      · intro w hSw
        try dsimp only at hSw
        go_simp
        try with_reducible rfl
      try simp only [List.setIfInBounds_toArray, List.set_cons_zero, List.set_cons_succ]
      refine take_do (i := 7) (d := 72) (v := ?_) rfl rfl (by kernel_rfl) (by kernel_rfl) (by kernel_rfl) (fun _ _ _ h => h) rfl ?_ (by assumption) ?_
      rotate_left
      · intro w hSw
        try dsimp only at hSw
        go_simp
        try with_reducible rfl
      try simp only [List.setIfInBounds_toArray, List.set_cons_zero, List.set_cons_succ]
      refine wpAnyH_ready (rs := [8]) (by kernel_rfl) (by simp) ?_
      refine AllReadyH.cons rfl (fun K hK => ?_) AllReadyH.nil
      go_simp
      refine hK.out _ _ (HS.out _ HB0.out) (fun hHeld => ?_)
      clear hK K
      refine wpAnyH_ready (rs := [9]) (by kernel_rfl) (by simp) ?_
      refine AllReadyH.cons rfl (fun K hK => ?_) AllReadyH.nil
      go_simp
      go_wp2_with (go_at_call 106; refine Calls.mono HE.out ?_; rintro e3 w3 ⟨rfl, hb3⟩; have HB2 : Hid (Below WR.heap.size WR w3) := belOn HB0.out HB0.out.size hb3; clear hb3; have hs3 := HB2.out.size; have hk2 := HZ.out _ HB2.out; obtain ⟨z0, y0⟩ := hk2.some (i * 5) (by omega); obtain ⟨z1, y1⟩ := hk2.some (i * 5 + 1) (by omega); obtain ⟨z2, y2⟩ := hk2.some (i * 5 + 2) (by omega); obtain ⟨z3, y3⟩ := hk2.some (i * 5 + 3) (by omega); obtain ⟨z4, y4⟩ := hk2.some (i * 5 + 4) (by omega); have fz := hk2.free; have hlw : w2.heap.size < w3.heap.size := (by omega); have HK2 := hide hk2; clear hk2)
      refine hK.out _ _ (HS.out _ HB2.out) (fun hHeld => ?_)
      clear hK K
      refine take_do (i := 10) (d := 64) (v := ?_) rfl rfl (by kernel_rfl) (by kernel_rfl) (by kernel_rfl) (fun _ _ _ h => h) rfl ?_ (by assumption) ?_
      rotate_left
      · intro w hSw
        try dsimp only at hSw
        go_simp
        try with_reducible rfl
      try simp only [List.setIfInBounds_toArray, List.set_cons_zero, List.set_cons_succ]
      refine take_do (i := 11) (d := 75) (v := ?_) rfl rfl (by kernel_rfl) (by kernel_rfl) (by kernel_rfl) (fun _ _ _ h => h) rfl ?_ (by assumption) ?_
      rotate_left
      · intro w hSw
        try dsimp only at hSw
        go_simp
        try with_reducible rfl
      try simp only [List.setIfInBounds_toArray, List.set_cons_zero, List.set_cons_succ]
      refine take_do (i := 12) (d := 76) (v := ?_) rfl rfl (by kernel_rfl) (by kernel_rfl) (by kernel_rfl) (fun _ _ _ h => h) rfl ?_ (by assumption) ?_
      rotate_left
      · intro w hSw
        try dsimp only at hSw
        go_simp
        try with_reducible rfl
      try simp only [List.setIfInBounds_toArray, List.set_cons_zero, List.set_cons_succ]
      refine take_do (i := 13) (d := 77) (v := ?_) rfl rfl (by kernel_rfl) (by kernel_rfl) (by kernel_rfl) (fun _ _ _ h => h) rfl ?_ (by assumption) ?_
      rotate_left
      · intro w hSw
        try dsimp only at hSw
        go_simp
        try with_reducible rfl
      try simp only [List.setIfInBounds_toArray, List.set_cons_zero, List.set_cons_succ]
      refine wpAnyH_ready (rs := [14]) (by kernel_rfl) (by simp) ?_
      refine AllReadyH.cons rfl (fun K hK => ?_) AllReadyH.nil
      go_simp
      refine hK.out _ _ (HSP.out _ HB2.out _) (fun hHeld => ?_)
      clear hK K
      refine take_do (i := 15) (d := 13) (v := ?_) rfl rfl (by kernel_rfl) (by kernel_rfl) (by kernel_rfl) (fun _ _ _ h => h) rfl ?_ (by assumption) ?_
      rotate_left
      · intro w hSw
        try dsimp only at hSw
        go_simp
        try with_reducible rfl
      try simp only [List.setIfInBounds_toArray, List.set_cons_zero, List.set_cons_succ]
      refine wpAnyH_done (by kernel_rfl) ?_ _
      all_goals
        have hbr2 : Below wr.heap.size wr w3 := belOn hbRr (by omega) HB2.out
        have hb03 : Below W0.heap.size W0 w3 := belOn hbR0 (by omega) HB2.out
        go_wp2
        go_roundw
        case rel =>
          have hpb := put5_below (y := ys[i]) (o := i * 5) (b := w2.heap.size) hb03 (by omega)
          have hpk := put5_blk HK2.out (i * 5) ys[i]
          have hpr : RowF (put5 w3 w2.heap.size (i * 5) ys[i]) w2.heap.size N (fun j => if j < (i + 1) then (ys[j]?).getD (leaf 0 0 ⟨#[]⟩) else (th[j]?).getD (leaf 0 0 ⟨#[]⟩)) := (RowF.put ys[i] HK2.out (HRFr.out.below hbr2 (by omega)) hil (Nat.le_refl _)).eq (fun j _ => by
            by_cases e1 : j = i
            · subst e1
              simp [hyi]
            · by_cases e2 : j < i
              · rw [if_neg e1, if_pos e2, if_pos (by omega)]
              · rw [if_neg e1, if_neg e2, if_neg (by omega)])
          have hpf : FRow (put5 w3 w2.heap.size (i * 5) ys[i]) bf fs := fun q hq j hj => (put5_same _ _ _ _ _ (by omega) _).trans ((HFRr.out.below hbr2 hbfr) q hq j hj)
          have hpx : BoxR (put5 w3 w2.heap.size (i * 5) ys[i]) (w2.heap.size + 1) kind (some ⟨w2.heap.size, 0, none⟩) N N := (put5_hp _ _ _ _ _ (by omega)).trans (HXFr.out.below hbr2 (by omega))
          have hps := put5_size w3 w2.heap.size (i * 5) ys[i]
          rw [← put5_eq] at hpb hpk hpr hpf hpx hps
          exact ⟨i + 1, by go_num, by omega, hpb, by omega, hpf, hpx, hpk, hpr⟩
        case measure => simp [intOf]; omega
    · have hie : i = N := by omega
      subst hie
      have hrow : Row wr w2.heap.size 0 ys := HRFr.out.row ys (by rw [HY.out]; exact Nat.le_refl _) (fun j hj => by
        have hj' : j < i := by rw [← HY.out]; exact hj
        simp [hj, hj'])
      obtain ⟨x0, x1⟩ := HXFr.out.cells
      have xz1 := xz.below hb (by omega)
      obtain ⟨z0, z1⟩ := xz1.cells
      have fz : ∀ j, wr.frozen? ⟨w.heap.size + 1, j, none⟩ = false := fun j => by
        unfold BoxR at xz1
        simp [World.frozen?, xz1]
      have hfw : (w2.heap.size + 1) < wr.heap.size := by omega
      have hzw : w.heap.size + 1 < wr.heap.size := by omega
      have HRW := hide hrow
      clear hrow xz1
      go_wp2
      refine bodyPost_ret (v := .tuple #[.agg #[.int .i64 kind, .slice (some ⟨w2.heap.size, 0, none⟩) i i], .int .i64 0, .int .i64 0]) (by simp [results, Tryz.results43, go_sem, z0, z1]) rfl ⟨w2.heap.size, rfl, ⟨by omega, by simp [World.setCell]; omega, ?_⟩, ?_⟩
      · exact HRW.out.same (fun o' => (World.cell?_setCell_other _ _ _ _ (fun e => by have := congrArg Addr.block e; simp at this; omega)).trans (World.cell?_setCell_other _ _ _ _ (fun e => by have := congrArg Addr.block e; simp at this; omega)))
      · exact (hbw.setCell (p := ⟨w.heap.size + 1, 0, none⟩) (Nat.le_succ _) _).setCell (p := ⟨w.heap.size + 1, 1, none⟩) (Nat.le_succ _) _
set_option maxRecDepth 100000 in
set_option maxHeartbeats 4000000 in
theorem unpack_gen (kind : Int) (v : V) (ys : List V) (N : Nat) (hy : ys.length = N) (hcc : N ≤ 1000) (w : World) (hls : ∀ x ∈ ys, Lies w.heap.size w x)
    (hc : ∀ W, Below w.heap.size w W → Calls Tryz.prog 42 #[v.val] W fun e w' => e = .returned (.int .i64 0) ∧ Below W.heap.size W w')
    (hu : ∀ W, Below w.heap.size w W → Calls Tryz.prog 43 #[v.val] W (fun e w' => ∃ L, e = .returned (.tuple #[.agg #[.int .i64 kind, .slice (some ⟨L, 0, none⟩) N N], .int .i64 0, .int .i64 0]) ∧ Hid (W.heap.size ≤ L ∧ L < w'.heap.size ∧ Row w' L 0 ys) ∧ Below W.heap.size W w')) :
    Calls Tryz.prog 26 #[v.val] w (fun e w' => ∃ y : V, e = .returned (.tuple #[.agg #[.int .i64 kind, .slice y.a y.l.length y.c], .int .i64 0, .int .i64 0]) ∧ Hid (V.ts y.l = V.ts ys ∧ LiesIn (fun b => w.heap.size + 2 ≤ b ∧ b < w'.heap.size) w' y) ∧ Below w.heap.size w w') := by
  obtain ⟨W0, hW0⟩ : ∃ W0, (w.alloc (Obj.cells #[.int .i64 v.k, .int .u64 v.n, .string v.s, .slice v.a v.l.length v.c, .int .i64 v.e] 42)).alloc (Obj.cells #[.int .i64 0, .slice none 0 0] 33) = W0 := ⟨_, rfl⟩
  have hs0 : W0.heap.size = w.heap.size + 2 := by rw [← hW0]; simp
  have hb0 : Below w.heap.size w W0 := by rw [← hW0]; exact bel2 (Below.refl _ _) (Nat.le_refl _) _ _
  have xv : BoxV W0 w.heap.size v := by rw [← hW0]; exact heap_past (World.alloc_heap_new _ _) _
  have xz : BoxR W0 (w.heap.size + 1) 0 none 0 0 := by rw [← hW0]; exact heap_at1 _ _ _
  have HC := hide hc
  have HU := hide hu
  rw [V.val_eq] at HC HU ⊢
  have HY := hide hy
  have HLS := hide hls
  have HW0 := hide hW0
  clear hW0 hc hu hy hls
  go_enter Tryz.func26, Tryz.ntmps26
  go_wp2_with fail
  rw [HW0.out]
  clear HW0
  refine (HC.out _ hb0).mono ?_
  rintro e1 w1 ⟨rfl, hb1⟩
  have hs1 := hb1.size
  have hbw1 : Below w.heap.size w w1 := belOn hb0 (by omega) hb1
  obtain ⟨v0, v1, v2, v3, v4⟩ := (xv.below hb1 (by omega)).cells
  have hz1 : w.heap.size < w1.heap.size := by omega
  go_wp2_with fail
  refine (HU.out _ hbw1).mono ?_
  rintro e2 w2 ⟨L, rfl, HL, hb2⟩
  have hs2 := hb2.size
  have hb02 : Below W0.heap.size W0 w2 := belOn hb1 hs1 hb2
  have hbw2 : Below w.heap.size w w2 := belOn hb0 (by omega) hb02
  obtain ⟨W2, hW2⟩ : ∃ W2, w2.alloc (Obj.cells #[.int .i64 kind, .slice (some ⟨L, 0, none⟩) N N] 33) = W2 := ⟨_, rfl⟩
  have hsW2 : W2.heap.size = w2.heap.size + 1 := by rw [← hW2]; simp
  have hb22 : Below w2.heap.size w2 W2 := by rw [← hW2]; exact bel1 (Below.refl _ _) (Nat.le_refl _) _
  have hx2 : BoxR W2 w2.heap.size kind (some ⟨L, 0, none⟩) N N := by rw [← hW2]; exact World.alloc_heap_new _ _
  have hbwW : Below w.heap.size w W2 := belOn hbw2 hbw2.size hb22
  have hLl := HL.out.2.1
  have ho := owned_list ys (some ⟨L, 0, none⟩) N W2.heap.size W2 (Nat.le_refl _) (by rw [HY.out]; exact Nat.le_refl _) (by rw [HY.out]; omega) (fun _ => ⟨L, 0, rfl, by omega, HL.out.2.2.below hb22 hLl⟩) (fun x hx => ((HLS.out x hx).keep hbwW (Nat.le_refl _)).mono hbwW.size)
  rw [HY.out] at ho
  have HO := hide ho
  have HW2 := hide hW2
  clear ho hW2
  go_wp2_with fail
  rw [HW2.out]
  refine Calls.mono HO.out ?_
  rintro e3 w3 ⟨y, rfl, HYY, hb3⟩
  have hs3 := hb3.size
  have hx3 := hx2.below hb3 (by omega)
  obtain ⟨r0, r1⟩ := hx3.cells
  have fr : ∀ j, w3.frozen? ⟨w2.heap.size, j, none⟩ = false := fun j => by
    unfold BoxR at hx3
    simp [World.frozen?, hx3]
  have hb23 : Below w2.heap.size w2 w3 := hb22.trans (hb3.mono (by omega))
  have hb03 : Below W0.heap.size W0 w3 := belOn hb02 (by omega) hb23
  have hbw3 : Below w.heap.size w w3 := belOn hb0 (by omega) hb03
  have xz1 := xz.below hb03 (by omega)
  obtain ⟨z0, z1⟩ := xz1.cells
  have fz : ∀ j, w3.frozen? ⟨w.heap.size + 1, j, none⟩ = false := fun j => by
    unfold BoxR at xz1
    simp [World.frozen?, xz1]
  have hz3 : w.heap.size + 1 < w3.heap.size := by omega
  have hz4 : w2.heap.size < w3.heap.size := by omega
  have hne : w2.heap.size ≠ w.heap.size + 1 := by omega
  have hne' : w.heap.size + 1 ≠ w2.heap.size := by omega
  clear hx3 xz1
  go_wp2
  have hsm : ∀ b', b' ≠ w2.heap.size → b' ≠ w.heap.size + 1 → Same w3 (((w3.setCell ⟨w2.heap.size, 1, none⟩ (.slice y.a y.l.length y.c)).setCell ⟨w.heap.size + 1, 0, none⟩ (.int .i64 kind)).setCell ⟨w.heap.size + 1, 1, none⟩ (.slice y.a y.l.length y.c)) b' := fun b' n1 n2 o' =>
    ((World.cell?_setCell_other _ _ _ _ (fun e => n2 (congrArg Addr.block e).symm)).trans (World.cell?_setCell_other _ _ _ _ (fun e => n2 (congrArg Addr.block e).symm))).trans (World.cell?_setCell_other _ _ _ _ (fun e => n1 (congrArg Addr.block e).symm))
  have hsz : (((w3.setCell ⟨w2.heap.size, 1, none⟩ (.slice y.a y.l.length y.c)).setCell ⟨w.heap.size + 1, 0, none⟩ (.int .i64 kind)).setCell ⟨w.heap.size + 1, 1, none⟩ (.slice y.a y.l.length y.c)).heap.size = w3.heap.size := by simp [World.setCell]
  have hbz := ((hbw3.setCell (p := ⟨w2.heap.size, 1, none⟩) (by show w.heap.size ≤ w2.heap.size; omega) (.slice y.a y.l.length y.c)).setCell (p := ⟨w.heap.size + 1, 0, none⟩) (Nat.le_succ _) (.int .i64 kind)).setCell (p := ⟨w.heap.size + 1, 1, none⟩) (Nat.le_succ _) (.slice y.a y.l.length y.c)
  refine bodyPost_ret (v := .tuple #[.agg #[.int .i64 kind, .slice y.a y.l.length y.c], .int .i64 0, .int .i64 0]) (by simp [results, Tryz.results26, go_sem, z0, z1, hne, hne']) rfl ⟨y, rfl, ⟨HYY.out.1, LiesIn.keep HYY.out.2 (fun b' hq => ?_) (fun b' hq => ?_)⟩, hbz⟩
  · have h1 : W2.heap.size ≤ b' := hq.1
    exact hsm b' (by omega) (by omega)
  · have h1 : W2.heap.size ≤ b' := hq.1
    have h2 : b' < w3.heap.size := hq.2
    exact ⟨by omega, by rw [hsz]; exact h2⟩
end Go.Proofs.YtgldcchleoklcaaGreatDoor
