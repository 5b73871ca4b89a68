/- HRPk -/
import Derived.Test.YtgldcchleoklcaaGreatDoorP43
import Derived.OwnWalk
import Derived.Deep.WholeRow
namespace Go.Proofs.YtgldcchleoklcaaGreatDoor
open Go.RowKit
set_option linter.unusedVariables false
set_option linter.unusedSimpArgs false
def UK (q : Int) : Prop := ∀ (v : V), kindV v.k v.l = some q → ∀ (Q : Nat → Prop) (w : World), LiesIn Q w v → (∀ b, Q b → b < w.heap.size) → Calls Tryz.prog 27 #[v.val] w (RUR Q (unpR v) w)
def PK (k : Int) : Prop := ∀ (l : List FS) (Q : Nat → Prop) (W : World) (y : V) (a : Option Addr) (c : Nat) (fs : List Fd), ftab k = some l → LiesIn Q W (V.of 0 0 ⟨#[]⟩ y.a y.c 0 y.l) → (∀ b, Q b → b < W.heap.size) → y.l.length = l.length → (∀ i (h1 : i < l.length) (h2 : i < y.l.length), (chkV rep l[i] y.l[i]).2 = 0) → Flds l W a fs → l.length ≤ c →
  Calls Tryz.prog 37 #[.agg #[.int .i64 k, .slice y.a y.l.length y.c], .slice a l.length c] W fun e w' => ∃ z : V, e = .returned (.agg #[.int .i64 z.k, .int .u64 z.n, .string z.s, .slice z.a z.l.length z.c, .int .i64 z.e]) ∧ Hid (z.t = laidT k (rpT l y.l) ∧ LiesIn (fun q => Q q ∨ (W.heap.size ≤ q ∧ q < w'.heap.size)) w' z) ∧ Below W.heap.size W w'
def OutTo (o : List T) (j : Nat) (L : List V) : Prop := V.ts L = o.take j
theorem OutTo.next {o : List T} {j : Nat} {L : List V} {Y : V} (h : OutTo o j L) (hl : L.length = j) (hy : o[j]? = some Y.t) : OutTo o (j + 1) (L ++ [Y]) := by
  have hj : j < o.length := (List.getElem?_eq_some_iff.1 hy).1
  have e : o[j] = Y.t := by
    rw [List.getElem?_eq_getElem hj] at hy
    exact Option.some.inj hy
  unfold OutTo at h ⊢
  rw [List.take_succ_eq_append_getElem hj, e, ← h]
  simp only [V.ts_map, List.map_append, List.map_cons, List.map_nil]
theorem stripN_at {l : List V} {m : Nat} (h : m < l.length) : stripN (V.ts l) (m + 1) = if l[m].k = 0 then stripN (V.ts l) m else m + 1 := by
  rw [stripN]
  have : ((V.ts l)[m]?).getD nul = l[m].t := by
    rw [V.ts_map, List.getElem?_map, List.getElem?_eq_getElem h]
    rfl
  rw [this, k_t]
set_option maxRecDepth 100000 in
set_option maxHeartbeats 20000000 in
theorem rpacked_step (k : Int) (hIH : ∀ q, rk q < rk k → UK q ∧ PK q) : PK k := by
  intro l Q W y a c fs hft hy hQ hlen hch hF hc
  obtain ⟨hk1, hk2⟩ := ftab_pos hft
  obtain ⟨hN20, hfok⟩ := ftab_ok hft
  obtain ⟨N, hN⟩ : ∃ N, l.length = N := ⟨_, rfl⟩
  obtain ⟨ys, hys⟩ : ∃ ys, y.l = ys := ⟨_, rfl⟩
  obtain ⟨ya, hya⟩ : ∃ ya, y.a = ya := ⟨_, rfl⟩
  obtain ⟨yc, hyc⟩ : ∃ yc, y.c = yc := ⟨_, rfl⟩
  rw [hys, hya, hyc] at hy
  rw [hys] at hlen
  simp only [hys] at hch
  rw [hys, hya, hyc, hlen, hN]
  have hyN : ys.length = N := by rw [hlen, hN]
  obtain ⟨OO, hOO⟩ : ∃ OO, outs (rpT l ys) (l.map FS.d) = OO := ⟨_, rfl⟩
  obtain ⟨W0, hW0⟩ : ∃ W0, (W.alloc (Obj.cells #[.int .i64 k, .slice ya N yc] 33)).alloc (Obj.cells #[.int .i64 0, .int .u64 0, .string ⟨#[]⟩, .slice none 0 0, .int .i64 0] 42) = W0 := ⟨_, rfl⟩
  have hs0 : W0.heap.size = W.heap.size + 2 := by rw [← hW0]; simp
  have hb0 : Below W.heap.size W W0 := by rw [← hW0]; exact bel2 (Below.refl _ _) (Nat.le_refl _) _ _
  have hx0 : W0.heap[W.heap.size]? = some (.cells #[.int .i64 k, .slice ya N yc] 33 (0, 0)) := by rw [← hW0]; exact heap_past (World.alloc_heap_new _ _) _
  have hx1 : W0.heap[W.heap.size + 1]? = some (.cells #[.int .i64 0, .int .u64 0, .string ⟨#[]⟩, .slice none 0 0, .int .i64 0] 42 (0, 0)) := by rw [← hW0]; exact heap_at1 _ _ _
  have HC : Hid (∀ W', Below W0.heap.size W0 W' → W'.cell? ⟨W.heap.size, 0, none⟩ = some (.int .i64 k) ∧ W'.cell? ⟨W.heap.size, 1, none⟩ = some (.slice ya N yc) ∧ W'.heap[W.heap.size + 1]? = some (.cells #[.int .i64 0, .int .u64 0, .string ⟨#[]⟩, .slice none 0 0, .int .i64 0] 42 (0, 0)) ∧ Below W.heap.size W W') := fun W' h => by
    have hxx := (h.block W.heap.size (by omega)).trans hx0
    exact ⟨by unfold World.cell?; simp only [hxx]; rfl, by unfold World.cell?; simp only [hxx]; rfl, (h.block _ (by omega)).trans hx1, belOn hb0 (by omega) h⟩
  have HYS : Hid (∀ W', Below W.heap.size W W' → ∀ i (h : i < ys.length), ∃ b o, ya = some ⟨b, o, none⟩ ∧ b < W.heap.size ∧ (W'.cell? ⟨b, o + i * 5, none⟩ = some (.int .i64 ys[i].k) ∧ W'.cell? ⟨b, o + i * 5 + 1, none⟩ = some (.int .u64 ys[i].n) ∧ W'.cell? ⟨b, o + i * 5 + 2, none⟩ = some (.string ys[i].s) ∧ W'.cell? ⟨b, o + i * 5 + 3, none⟩ = some (.slice ys[i].a ys[i].l.length ys[i].c) ∧ W'.cell? ⟨b, o + i * 5 + 4, none⟩ = some (.int .i64 ys[i].e)) ∧ LiesIn Q W' ys[i]) := fun W' h i hi => by
    obtain ⟨b, o, e, h1, h2⟩ := LiesIn.row hy (by omega)
    have h3 := hQ b h1
    exact ⟨b, o, e, h3, h2.below h h3 i hi, LiesIn.keep (LiesIn.sub hy _ (List.getElem_mem hi)) (fun b' hb' o' => h.cell (p := ⟨b', o', none⟩) (hQ b' hb')) (fun _ h => h)⟩
  have HFR : Hid (∀ W', Below W.heap.size W W' → ∀ i (hi : i < l.length), ∃ (bf : Nat), a = some ⟨bf, 0, none⟩ ∧ bf < W.heap.size ∧ W'.cell? ⟨bf, i * 9 + 1, none⟩ = some (.int .i64 l[i].ty) ∧ (W'.cell? ⟨bf, i * 9 + 4, none⟩ = some (.int .i64 l[i].d.k) ∧ W'.cell? ⟨bf, i * 9 + 4 + 1, none⟩ = some (.int .u64 l[i].d.n) ∧ W'.cell? ⟨bf, i * 9 + 4 + 2, none⟩ = some (.string l[i].d.s) ∧ W'.cell? ⟨bf, i * 9 + 4 + 3, none⟩ = some (.slice l[i].d.a l[i].d.l.length l[i].d.c) ∧ W'.cell? ⟨bf, i * 9 + 4 + 4, none⟩ = some (.int .i64 l[i].d.e))) := fun W' h i hi => by
    have hif : i < fs.length := by rw [hF.1]; exact hi
    obtain ⟨bf, e, h2, h3⟩ := hF.2.1 (by omega)
    have h4 := (h3.below h h2).cells i hif
    obtain ⟨_, q2, _, q4, _, _, _⟩ := hF.2.2 i hif hi
    rw [q2, q4] at h4
    obtain ⟨_, c1, _, _, c4, c5, c6, c7, c8⟩ := h4
    exact ⟨bf, e, h2, c1, ⟨c4, c5, c6, c7, c8⟩⟩
  have HOK : Hid (∀ i (hi : i < l.length) (h2 : i < ys.length), okR k l[i] = true ∧ (chkV rep l[i] ys[i]).2 = 0 ∧ (∀ n w, Lies n w l[i].d) ∧ OO[i]? = some (if eqT (chkV rep l[i] ys[i]).1.t l[i].d.t then leaf 0 0 ⟨#[]⟩ else (chkV rep l[i] ys[i]).1)) := fun i hi h2 => ⟨ftab_r hft _ (List.getElem_mem hi), hch i hi h2, okFS_lies (hfok _ (List.getElem_mem hi)), by rw [← hOO]; exact outs_rp hlen i hi h2⟩
  have HFIN : Hid (∀ L : List V, V.ts L = OO → L.length = N → stripN (V.ts L) N = saidN (rpT l ys) (l.map FS.d) N ∧ dsOf k = l.map FS.d ∧ (rpT l ys).length = N) := fun L hL hLN => by
    have hrl : (rpT l ys).length = N := by rw [rpT_len hlen, hN]
    refine ⟨?_, by unfold dsOf; rw [hft]; rfl, hrl⟩
    rw [hL, ← hOO]
    refine strip_said (rpT l ys) (l.map FS.d) (by rw [hrl]; simp [hN]) (fun i h1 h2 hz => ?_) N (by omega)
    have hi : i < l.length := by omega
    have hi2 : i < ys.length := by omega
    have ho := ftab_r hft _ (List.getElem_mem hi)
    obtain ⟨w1, w2, w3, w4⟩ := chkV_fit ho (hch i hi hi2)
    rw [rpT_at i h1 hi hi2] at hz ⊢
    have hd : (l.map FS.d)[i] = l[i].d := by simp
    rw [hd]
    by_cases hk : ys[i].k = 0
    · rw [(w2 hk).2]
      exact eqT_rf _
    · exfalso
      by_cases h102 : l[i].ty = 102
      · obtain ⟨q, hq, _, _, hr⟩ := w4 hk h102
        obtain ⟨_, ts, _, _, ht, _⟩ := unp_comp w1 hq hr
        rw [ht] at hz
        exact absurd hz (by show ¬ ((24 : Int) = 0); decide)
      · rw [w3 hk h102, k_t] at hz
        exact hk hz
  have HIH := hide hIH
  have hwr : IntKind.u64.wrap k = k := by
    unfold IntKind.wrap
    simp [IntKind.signed, IntKind.bits]
    omega
  have HOO := hide hOO
  have HW0 := hide hW0
  have HN := hide hN
  have HYN := hide hyN
  obtain ⟨k0, k1, kz, _⟩ := HC.out W0 (Below.refl _ _)
  have hz0 : W.heap.size < W0.heap.size := by omega
  have hN' : N ≤ 20 := by omega
  obtain ⟨i0, hi0, hzz⟩ := Option.map_eq_some_iff.1 Tryz.infoV
  simp only [Prod.mk.injEq] at hzz
  obtain ⟨hz0', hz1', hz2'⟩ := hzz
  have HI : Hid (i0.zero = _ ∧ i0.size = _ ∧ i0.bytes = _) := ⟨hz0', hz1', hz2'⟩
  have HI0 := hide hi0
  have hK : k ≤ 200 := hk2
  have hK1 : 1 ≤ k := hk1
  have HQ0 : Hid (∀ b, Q b → b < W0.heap.size) := fun b h => by have := hQ b h; omega
  rw [hN] at hc
  clear hy hlen hch hF hft hN20 hfok hN hyN hOO hW0 hx0 hx1 hz0' hz1' hz2' hi0 kz hIH hys hya hyc k0 k1 hk1 hk2
  go_enter Tryz.func37, Tryz.ntmps37
  go_wp2
  rw [HW0.out]
  go_loopw [5, 6] (fun lv i wr => ∃ (j : Nat) (A : Option Addr) (C : Nat), i = .int .i64 j ∧ lv = .slice A j C ∧ j ≤ N ∧ Hid (Below W0.heap.size W0 wr) ∧ ∃ L : List V, OutTo OO j L ∧ L.length = j ∧ GLL Q W0.heap.size L (.slice A j C) wr) (fun _ i _ => N - (intOf i).toNat)
  case atStart => exact ⟨0, none, 0, rfl, rfl, Nat.zero_le _, Below.refl _ _, [], by simp [OutTo, V.ts], rfl, GLL.nil _ _ _⟩
  case round =>
    obtain ⟨j, A, C, rfl, rfl, hj, HBR0, L, hT1, hLJ, hG⟩ := hrel
    have HT1 := hide hT1
    have HLJ := hide hLJ
    have HG := hide hG
    clear hT1 hLJ hG
    have hlo := HBR0.out.size
    obtain ⟨k0, k1, kz, hbw⟩ := HC.out wr HBR0.out
    have HKZ := hide kz
    have HBW := hide hbw
    clear kz hbw
    have hy0 : W.heap.size < wr.heap.size := by omega
    by_cases hjN : j < N
    · have hjl : j < l.length := by rw [HN.out]; exact hjN
      have hjy : j < ys.length := by rw [HYN.out]; exact hjN
      obtain ⟨bf, rfl, hbf, cty, ⟨d0, d1, d2, d3, d4⟩⟩ := HFR.out wr HBW.out j hjl
      obtain ⟨b3, o3, rfl, hb3, ⟨x0, x1, x2, x3, x4⟩, hxl⟩ := HYS.out wr HBW.out j hjy
      obtain ⟨hoR, hck, hdl, hout⟩ := HOK.out j hjl hjy
      have hbf' : bf < wr.heap.size := by omega
      have hb3' : b3 < wr.heap.size := by omega
      have HDL := hide hdl
      have HXL := hide hxl
      clear hdl hxl
      obtain ⟨g1, g2, g3, g4⟩ := chkV_fit hoR hck
      generalize hxx : ys[j] = x at *
      generalize hzz : l[j] = Z at *
      have HO0 := hide hout
      have HG1 := hide g1
      have HG2 := hide g2
      have HG3 := hide g3
      have HG4 := hide g4
      clear hout hck hoR g1 g2 g3 g4 hxx hzz
      by_cases hcm : Z.ty = 102 ∧ x.k ≠ 0
      · obtain ⟨h102, hxk⟩ := hcm
        rw [h102] at cty
        have hxb : (x.k == 0) = false := by simpa using hxk
        have hxn : (x.k != 0) = true := by simpa using hxk
        obtain ⟨q, hq, hqm, hqr, hre⟩ := HG4.out hxk h102
        obtain ⟨fs', ts', hu, hf', ht', hl', hys'⟩ := unp_comp HG1.out hq hre
        obtain ⟨W1, hW1⟩ : ∃ W1, wr.alloc (Obj.cells #[.int .i64 x.k, .int .u64 x.n, .string x.s, .slice x.a x.l.length x.c, .int .i64 x.e] 42) = W1 := ⟨_, rfl⟩
        have hs1 : W1.heap.size = wr.heap.size + 1 := by rw [← hW1]; simp
        have hbW1 : Below wr.heap.size wr W1 := by rw [← hW1]; exact bel1 (Below.refl _ _) (Nat.le_refl _) _
        have hbx1 : W1.heap[wr.heap.size]? = some (.cells #[.int .i64 x.k, .int .u64 x.n, .string x.s, .slice x.a x.l.length x.c, .int .i64 x.e] 42 (0, 0)) := by rw [← hW1]; exact World.alloc_heap_new _ _
        have hU := (HIH.out q hqr).1 x hq Q W1 (LiesIn.keep HXL.out (fun b' hb' o' => hbW1.cell (p := ⟨b', o', none⟩) (by show b' < wr.heap.size; have := hQ b' hb'; omega)) (fun _ h => h)) (fun b' hb' => by have := hQ b' hb'; omega)
        rw [hu, V.val_eq] at hU
        have HU := hide hU
        have HW1 := hide hW1
        have HYS' := hide hys'
        have HF' := hide hf'
        have HQR := hide hqr
        have HT' := hide ht'
        clear hU hW1 hys' hf' hl' hqr hq hqm hre hu ht' hxk
        go_wp2_with fail
        rw [HW1.out]
        refine HU.out.mono ?_
        rintro e2 w2 ⟨u, rfl, HUY, hb2⟩
        dsimp only at HUY ⊢
        have hs2 := hb2.size
        obtain ⟨W2, hW2⟩ : ∃ W2, w2.alloc (Obj.cells #[.int .i64 q, .slice u.a u.l.length u.c] 33) = W2 := ⟨_, rfl⟩
        have hsW2 : W2.heap.size = w2.heap.size + 1 := by rw [← hW2]; simp
        have hb22 : Below w2.heap.size w2 W2 := by rw [← hW2]; exact bel1 (Below.refl _ _) (Nat.le_refl _) _
        have hbx : W2.heap[w2.heap.size]? = some (.cells #[.int .i64 q, .slice u.a u.l.length u.c] 33 (0, 0)) := by rw [← hW2]; exact World.alloc_heap_new _ _
        have hrf := rfields_any q W2
        rw [HF'.out] at hrf
        have HRF := hide hrf
        have HW2 := hide hW2
        clear hrf hW2 x0 x1 x2 x3 x4
        go_wp2_with fail
        rw [HW2.out]
        refine HRF.out.mono ?_
        rintro e3 w3 ⟨a', c', fd', rfl, HFI, hlc, hb3⟩
        have hs3 := hb3.size
        have hbx3 := (hb3.block w2.heap.size (by omega)).trans hbx
        have r0 : w3.cell? ⟨w2.heap.size, 0, none⟩ = some (.int .i64 q) := by unfold World.cell?; simp only [hbx3]; rfl
        have r1 : w3.cell? ⟨w2.heap.size, 1, none⟩ = some (.slice u.a u.l.length u.c) := by unfold World.cell?; simp only [hbx3]; rfl
        have hw2 : w2.heap.size < w3.heap.size := by omega
        have hb23 : Below w2.heap.size w2 w3 := hb22.trans (hb3.mono (by omega))
        obtain ⟨hul, huc, hur⟩ := HYS'.out u.l HUY.out.1
        have hpk := (HIH.out q HQR.out).2 fs' (fun b => Q b ∨ (W1.heap.size ≤ b ∧ b < w2.heap.size)) w3 u a' c' fd' HF'.out (LiesIn.keep HUY.out.2 (fun b hq o => hb23.cell (p := ⟨b, o, none⟩) (hq.elim (fun h => by show b < w2.heap.size; have := hQ b h; omega) (fun h => h.2))) (fun b hq => hq)) (fun b hq => hq.elim (fun h => by have := hQ b h; omega) (fun h => by omega)) hul huc (HFI.out.flds (Below.refl _ _)) hlc
        rw [hur, ← HT'.out] at hpk
        have HPK := hide hpk
        clear hpk hbx3 hbx hul huc hur
        go_wp2_with fail
        refine HPK.out.mono ?_
        rintro e4 w4 ⟨z, rfl, HZ4, hb4⟩
        have hs4 := hb4.size
        have hb14 : Below W1.heap.size W1 w4 := hb2.trans ((hb23.trans (hb4.mono (by omega))).mono hs2)
        have HX4 : Hid (w4.heap[wr.heap.size]? = some (.cells #[.int .i64 x.k, .int .u64 x.n, .string x.s, .slice x.a x.l.length x.c, .int .i64 x.e] 42 (0, 0))) := (hb14.block wr.heap.size (by omega)).trans hbx1
        obtain ⟨X0, hX0⟩ : ∃ X0, w4.setRow wr.heap.size #[.int .i64 z.k, .int .u64 z.n, .string z.s, .slice z.a z.l.length z.c, .int .i64 z.e] = X0 := ⟨_, rfl⟩
        have hsX : X0.heap.size = w4.heap.size := by rw [← hX0]; exact setR_size _ _ _
        have HBX : Hid (Below wr.heap.size wr X0) := by rw [← hX0]; exact setR_below (hbW1.trans (hb14.mono (by omega))) (Nat.le_refl _) _
        have HPX : Hid (wr.heap.size < X0.heap.size) := by rw [Hid, hsX]; omega
        have HBOX : Hid (X0.heap[wr.heap.size]? = some (.cells #[.int .i64 z.k, .int .u64 z.n, .string z.s, .slice z.a z.l.length z.c, .int .i64 z.e] 42 (0, 0))) := by rw [← hX0]; exact setR_at HX4.out _
        have HLY : Hid (LiesIn (fun b => Q b ∨ (wr.heap.size ≤ b ∧ b < X0.heap.size)) X0 z) := by
          refine LiesIn.keep HZ4.out.2 (fun b hq o => ?_) (fun b hq => ?_)
          · rw [← hX0]
            refine World.cell?_of_block (setR_ne (b := b) w4 (fun e => ?_) _)
            subst e
            rcases hq with (h | h) | h
            · have := hQ _ h; omega
            · omega
            · omega
          · rcases hq with (h | h) | h
            · exact .inl h
            · exact .inr ⟨by omega, by omega⟩
            · exact .inr ⟨by omega, by omega⟩
        have HOUT : Hid (OO[j]? = some (if eqT z.t Z.d.t then nul else z).t) := by
          have h := HO0.out
          rw [← HZ4.out.1, t_t] at h
          rw [Hid, h]
          split
          · exact congrArg some (leaf_t 0 0 ⟨#[]⟩).symm
          · rfl
        have HX0 := hide hX0
        clear hX0 hsX r0 r1 HU HRF HPK
        go_wp2_with (refine wpList_store_row rfl 42 (.tmp 7) (.tmp 57) rfl wr.heap.size #[.int .i64 z.k, .int .u64 z.n, .string z.s, .slice z.a z.l.length z.c, .int .i64 z.e] rfl rfl 42 _ HX4.out Tryz.sizeV rfl (by kernel_rfl) ?_; rw [HX0.out])
        have HS : Hid (∀ W', Below X0.heap.size X0 W' → (fun W' => W'.cell? ⟨wr.heap.size, 0, none⟩ = some (.int .i64 z.k) ∧ W'.cell? ⟨wr.heap.size, 1, none⟩ = some (.int .u64 z.n) ∧ W'.cell? ⟨wr.heap.size, 2, none⟩ = some (.string z.s) ∧ W'.cell? ⟨wr.heap.size, 3, none⟩ = some (.slice z.a z.l.length z.c) ∧ W'.cell? ⟨wr.heap.size, 4, none⟩ = some (.int .i64 z.e) ∧ W'.cell? ⟨bf, j * 9 + 4, none⟩ = some (.int .i64 Z.d.k) ∧ W'.cell? ⟨bf, j * 9 + 4 + 1, none⟩ = some (.int .u64 Z.d.n) ∧ W'.cell? ⟨bf, j * 9 + 4 + 2, none⟩ = some (.string Z.d.s) ∧ W'.cell? ⟨bf, j * 9 + 4 + 3, none⟩ = some (.slice Z.d.a Z.d.l.length Z.d.c) ∧ W'.cell? ⟨bf, j * 9 + 4 + 4, none⟩ = some (.int .i64 Z.d.e)) W') := by
          intro W' hW'
          have e : ∀ o', W'.cell? ⟨bf, o', none⟩ = wr.cell? ⟨bf, o', none⟩ := fun o' => (hW'.cell (p := ⟨bf, o', none⟩) (by show bf < X0.heap.size; have := HBX.out.size; omega)).trans (HBX.out.cell (p := ⟨bf, o', none⟩) hbf')
          have hbx := (hW'.block wr.heap.size HPX.out).trans HBOX.out
          refine ⟨?_, ?_, ?_, ?_, ?_, (e _).trans d0, (e _).trans d1, (e _).trans d2, (e _).trans d3, (e _).trans d4⟩ <;> (unfold World.cell?; simp only [hbx]; rfl)
        have HBR : Hid (Below X0.heap.size X0 X0.drew) := (Below.refl _ _).drew
        have hE := requal_any z Z.d X0.heap.size X0.drew (Nat.le_refl _) (LiesIn.keep HLY.out (fun _ _ _ => rfl) (fun b hq => hq.elim (fun h => by have := hQ b h; have := HBX.out.size; show b < X0.heap.size; omega) (fun h => h.2))) (HDL.out _ _)
        rw [V.val_eq, V.val_eq] at hE
        generalize eqT z.t Z.d.t = g at hE HOUT
        have HE := hide hE
        clear hE
        refine wp_region_held_drew (S := (fun W' => W'.cell? ⟨wr.heap.size, 0, none⟩ = some (.int .i64 z.k) ∧ W'.cell? ⟨wr.heap.size, 1, none⟩ = some (.int .u64 z.n) ∧ W'.cell? ⟨wr.heap.size, 2, none⟩ = some (.string z.s) ∧ W'.cell? ⟨wr.heap.size, 3, none⟩ = some (.slice z.a z.l.length z.c) ∧ W'.cell? ⟨wr.heap.size, 4, none⟩ = some (.int .i64 z.e) ∧ W'.cell? ⟨bf, j * 9 + 4, none⟩ = some (.int .i64 Z.d.k) ∧ W'.cell? ⟨bf, j * 9 + 4 + 1, none⟩ = some (.int .u64 Z.d.n) ∧ W'.cell? ⟨bf, j * 9 + 4 + 2, none⟩ = some (.string Z.d.s) ∧ W'.cell? ⟨bf, j * 9 + 4 + 3, none⟩ = some (.slice Z.d.a Z.d.l.length Z.d.c) ∧ W'.cell? ⟨bf, j * 9 + 4 + 4, none⟩ = some (.int .i64 Z.d.e))) (by kernel_rfl) (HS.out _ HBR.out) (fun hHeld => ?_)
        refine take_do (i := 0) (d := 58) (v := ?_) rfl rfl (by kernel_rfl) (by kernel_rfl) (by kernel_rfl) (fun _ _ _ h => h) rfl ?_ (by assumption) ?_
        rotate_left
        · intro w hSw
          try dsimp only at hSw
          go_simp
          try with_reducible rfl
        try simp only [List.setIfInBounds_toArray, List.set_cons_zero, List.set_cons_succ]
        refine take_do (i := 1) (d := 59) (v := ?_) rfl rfl (by kernel_rfl) (by kernel_rfl) (by kernel_rfl) (fun _ _ _ h => h) rfl ?_ (by assumption) ?_
        rotate_left
        · intro w hSw
          try dsimp only at hSw
          go_simp
          try with_reducible rfl
        try simp only [List.setIfInBounds_toArray, List.set_cons_zero, List.set_cons_succ]
        refine take_do (i := 2) (d := 60) (v := ?_) rfl rfl (by kernel_rfl) (by kernel_rfl) (by kernel_rfl) (fun _ _ _ h => h) rfl ?_ (by assumption) ?_
        rotate_left
        · intro w hSw
          try dsimp only at hSw
          go_simp
          try with_reducible rfl
        try simp only [List.setIfInBounds_toArray, List.set_cons_zero, List.set_cons_succ]
        refine take_do (i := 3) (d := 61) (v := ?_) rfl rfl (by kernel_rfl) (by kernel_rfl) (by kernel_rfl) (fun _ _ _ h => h) rfl ?_ (by assumption) ?_
        rotate_left
        · intro w hSw
          try dsimp only at hSw
          go_simp
          try with_reducible rfl
        try simp only [List.setIfInBounds_toArray, List.set_cons_zero, List.set_cons_succ]
        refine take_do (i := 4) (d := 62) (v := ?_) rfl rfl (by kernel_rfl) (by kernel_rfl) (by kernel_rfl) (fun _ _ _ h => h) rfl ?_ (by assumption) ?_
        rotate_left
        · intro w hSw
          try dsimp only at hSw
          go_simp
          try with_reducible rfl
        try simp only [List.setIfInBounds_toArray, List.set_cons_zero, List.set_cons_succ]
        refine take_do (i := 5) (d := 63) (v := ?_) rfl rfl (by kernel_rfl) (by kernel_rfl) (by kernel_rfl) (fun _ _ _ h => h) rfl ?_ (by assumption) ?_
        rotate_left
        · intro w hSw
          try dsimp only at hSw
          go_simp
          try with_reducible rfl
        try simp only [List.setIfInBounds_toArray, List.set_cons_zero, List.set_cons_succ]
        refine wpAnyH_ready (rs := [6]) (by kernel_rfl) (by simp) ?_
        refine AllReadyH.cons rfl (fun K hK => ?_) AllReadyH.nil
        go_simp
        go_wp2_with (go_at_call 21; refine Calls.mono HE.out ?_; rintro e6 w6 ⟨rfl, hb6⟩; have HB6 : Hid (Below X0.heap.size X0 w6) := HBR.out.trans (hb6.mono (Nat.le_refl _)); clear hb6)
        refine hK.out _ _ (HS.out _ HB6.out) (fun hHeld => ?_)
        clear hK K
        refine take_do (i := 7) (d := 13) (v := ?_) rfl rfl (by kernel_rfl) (by kernel_rfl) (by kernel_rfl) (fun _ _ _ h => h) rfl ?_ (by assumption) ?_
        rotate_left
        · intro w hSw
          try dsimp only at hSw
          go_simp
          try with_reducible rfl
        try simp only [List.setIfInBounds_toArray, List.set_cons_zero, List.set_cons_succ]
        refine wpAnyH_done (by kernel_rfl) ?_ _
        have HBW6 : Hid (Below wr.heap.size wr w6) := HBX.out.trans (HB6.out.mono HBX.out.size)
        have HX6 : Hid (w6.heap[wr.heap.size]? = some (.cells #[.int .i64 z.k, .int .u64 z.n, .string z.s, .slice z.a z.l.length z.c, .int .i64 z.e] 42 (0, 0))) := (HB6.out.block wr.heap.size HPX.out).trans HBOX.out
        have hp6 : wr.heap.size < w6.heap.size := by have := HB6.out.size; have := HPX.out; omega
        have HLY6 : Hid (LiesIn (fun q => Q q ∨ (wr.heap.size ≤ q ∧ q < w6.heap.size)) w6 z) := LiesIn.keep HLY.out (fun b hq o' => HB6.out.cell (p := ⟨b, o', none⟩) (hq.elim (fun h => by have := hQ b h; have := HBX.out.size; show b < X0.heap.size; omega) (fun h => h.2))) (fun b hq => hq.elim .inl (fun h => .inr ⟨h.1, by have := HB6.out.size; omega⟩))
        clear HE HS HBR d0 d1 d2 d3 d4
        cases g
        · obtain ⟨⟨c0, c1, c2, c3, c4⟩⟩ : ∃ _ : (w6.cell? ⟨wr.heap.size, 0, none⟩ = some (.int .i64 z.k) ∧ w6.cell? ⟨wr.heap.size, 1, none⟩ = some (.int .u64 z.n) ∧ w6.cell? ⟨wr.heap.size, 2, none⟩ = some (.string z.s) ∧ w6.cell? ⟨wr.heap.size, 3, none⟩ = some (.slice z.a z.l.length z.c) ∧ w6.cell? ⟨wr.heap.size, 4, none⟩ = some (.int .i64 z.e)), True := by
            have hx6 := HX6.out
            exact ⟨⟨by unfold World.cell?; simp only [hx6]; rfl, by unfold World.cell?; simp only [hx6]; rfl, by unfold World.cell?; simp only [hx6]; rfl, by unfold World.cell?; simp only [hx6]; rfl, by unfold World.cell?; simp only [hx6]; rfl⟩, trivial⟩
          have HOWN : Hid (∀ o, (w6.alloc o).ownsRow W0.heap.size 42 5 (.slice A j C) j (flat L)) := fun o => by
            have := (ownsRow_keep HG.out.1 (fun g hg => HBW6.out.block g (ownsRow_lt HG.out.1 hg).2)).alloc o
            rwa [HLJ.out] at this
          go_wp2_with (at_builtin; refine wpList_append_own_at _ rfl (.tmp 67) (.tmp 69) 31 rfl W0.heap.size 42 i0 _ 5 64 Tryz.underlying31 HI0.out HI.out.1 HI.out.2.1 HI.out.2.2 rfl (by decide) _ j (flat L) rfl (HOWN.out _) ⟨w6.heap.size, 0, none⟩ 1 1 (words z) rfl rfl (newsR w6 _ _ _ _ _ _) (V.words_one _) (by simp [maxLen]; omega) (by omega) (by simp; omega) ?_; intro v' w7 hown' hgrow _ hat; obtain ⟨g', cap', rfl⟩ := ownsRow_succ hown')
          obtain ⟨hG7, hB7⟩ := GLL.push (Y := z) HG.out HQ0.out hlo HBW6.out HLY6.out (by rw [HLJ.out]; exact hown') hgrow hat
          have HG7 := hide hG7
          have HB7 : Hid (Below W0.heap.size W0 w7) := HBR0.out.trans hB7
          clear hG7 hB7 hown' hgrow hat
          go_roundw
          case rel => exact ⟨j + 1, some ⟨g', 0, none⟩, cap', by go_num, rfl, hjN, HB7, L ++ [z], HT1.out.next HLJ.out HOUT.out, by simp [HLJ.out], HG7.out⟩
          case measure => simp [intOf]; omega
        · obtain ⟨X7, hX7⟩ : ∃ X7, w6.setRow wr.heap.size #[.int .i64 0, .int .u64 0, .string ⟨#[]⟩, .slice none 0 0, .int .i64 0] = X7 := ⟨_, rfl⟩
          have HBW7 : Hid (Below wr.heap.size wr X7) := by rw [← hX7]; exact setR_below HBW6.out (Nat.le_refl _) _
          have hp7 : wr.heap.size < X7.heap.size := by rw [← hX7, setR_size]; exact hp6
          have hx7 : X7.heap[wr.heap.size]? = some (.cells #[.int .i64 0, .int .u64 0, .string ⟨#[]⟩, .slice none 0 0, .int .i64 0] 42 (0, 0)) := by rw [← hX7]; exact setR_at HX6.out _
          obtain ⟨⟨c0, c1, c2, c3, c4⟩⟩ : ∃ _ : (X7.cell? ⟨wr.heap.size, 0, none⟩ = some (.int .i64 0) ∧ X7.cell? ⟨wr.heap.size, 1, none⟩ = some (.int .u64 0) ∧ X7.cell? ⟨wr.heap.size, 2, none⟩ = some (.string ⟨#[]⟩) ∧ X7.cell? ⟨wr.heap.size, 3, none⟩ = some (.slice none 0 0) ∧ X7.cell? ⟨wr.heap.size, 4, none⟩ = some (.int .i64 0)), True := ⟨⟨by unfold World.cell?; simp only [hx7]; rfl, by unfold World.cell?; simp only [hx7]; rfl, by unfold World.cell?; simp only [hx7]; rfl, by unfold World.cell?; simp only [hx7]; rfl, by unfold World.cell?; simp only [hx7]; rfl⟩, trivial⟩
          have HX7 := hide hX7
          have HOWN : Hid (∀ o, (X7.alloc o).ownsRow W0.heap.size 42 5 (.slice A j C) j (flat L)) := fun o => by
            have := (ownsRow_keep HG.out.1 (fun g hg => HBW7.out.block g (ownsRow_lt HG.out.1 hg).2)).alloc o
            rwa [HLJ.out] at this
          clear hX7 hx7
          go_wp2_with (first | (refine wpList_store_row rfl 42 (.tmp 7) (.tmp 66) rfl wr.heap.size #[.int .i64 0, .int .u64 0, .string ⟨#[]⟩, .slice none 0 0, .int .i64 0] rfl rfl 42 _ HX6.out Tryz.sizeV rfl (by kernel_rfl) ?_; rw [HX7.out]) | (at_builtin; refine wpList_append_own_at _ rfl (.tmp 67) (.tmp 69) 31 rfl W0.heap.size 42 i0 _ 5 64 Tryz.underlying31 HI0.out HI.out.1 HI.out.2.1 HI.out.2.2 rfl (by decide) _ j (flat L) rfl (HOWN.out _) ⟨X7.heap.size, 0, none⟩ 1 1 [.int .i64 0, .int .u64 0, .string ⟨#[]⟩, .slice none 0 0, .int .i64 0] rfl rfl (newsR X7 _ _ _ _ _ _) (by rw [← words_nul]; exact V.words_one _) (by simp [maxLen]; omega) (by omega) (by simp; omega) ?_; intro v' w7 hown' hgrow _ hat; obtain ⟨g', cap', rfl⟩ := ownsRow_succ hown'))
          obtain ⟨hG7, hB7⟩ := GLL.push (Y := nul) HG.out HQ0.out hlo HBW7.out (LiesIn.keep (nul_lies' 0 _) (fun _ _ _ => rfl) (fun b h => absurd h (Nat.not_lt_zero _))) (by rw [HLJ.out, words_nul]; exact hown') hgrow hat
          have HG7 := hide hG7
          have HB7 : Hid (Below W0.heap.size W0 w7) := HBR0.out.trans hB7
          clear hG7 hB7 hown' hgrow hat
          go_roundw
          case rel => exact ⟨j + 1, some ⟨g', 0, none⟩, cap', by go_num, rfl, hjN, HB7, L ++ [nul], HT1.out.next HLJ.out HOUT.out, by simp [HLJ.out], HG7.out⟩
          case measure => simp [intOf]; omega
      · obtain ⟨X0, hX0⟩ : ∃ X0, wr.alloc (Obj.cells #[.int .i64 x.k, .int .u64 x.n, .string x.s, .slice x.a x.l.length x.c, .int .i64 x.e] 42) = X0 := ⟨_, rfl⟩
        have hsX : X0.heap.size = wr.heap.size + 1 := by rw [← hX0]; simp
        have HBX : Hid (Below wr.heap.size wr X0) := by rw [← hX0]; exact bel1 (Below.refl _ _) (Nat.le_refl _) _
        have HPX : Hid (wr.heap.size < X0.heap.size) := by rw [Hid, hsX]; omega
        have HBOX : Hid (X0.heap[wr.heap.size]? = some (.cells #[.int .i64 x.k, .int .u64 x.n, .string x.s, .slice x.a x.l.length x.c, .int .i64 x.e] 42 (0, 0))) := by rw [← hX0]; exact World.alloc_heap_new _ _
        have HLY : Hid (LiesIn (fun b => Q b ∨ (wr.heap.size ≤ b ∧ b < X0.heap.size)) X0 x) := LiesIn.keep HXL.out (fun b' hb' o' => HBX.out.cell (p := ⟨b', o', none⟩) (by show b' < wr.heap.size; have := hQ b' hb'; omega)) (fun _ h => .inl h)
        have HOUT : Hid (OO[j]? = some (if eqT x.t Z.d.t then nul else x).t) := by
          have h := HO0.out
          by_cases hk : x.k = 0
          · have hn := null_of_chk HG1.out hk
            rw [(HG2.out hk).2, fs_d_t, eqT_rf, if_pos rfl] at h
            rw [Hid, h]
            split
            · exact congrArg some (leaf_t 0 0 ⟨#[]⟩).symm
            · exact congrArg some hn.symm
          · have h102 : Z.ty ≠ 102 := fun h => hcm ⟨h, hk⟩
            rw [HG3.out hk h102, t_t] at h
            rw [Hid, h]
            split
            · exact congrArg some (leaf_t 0 0 ⟨#[]⟩).symm
            · rfl
        have HX0 := hide hX0
        have hguard : (Z.ty == 102) = false ∨ (Z.ty = 102 ∧ x.k = 0) := by
          by_cases h : Z.ty = 102
          · exact .inr ⟨h, by
              by_cases hk : x.k = 0
              · exact hk
              · exact absurd ⟨h, hk⟩ hcm⟩
          · exact .inl (by simpa using h)
        clear hX0 hcm hsX
        rcases hguard with b102 | ⟨h102, hxk⟩
        · go_wp2_with fail
          rw [HX0.out]
          have HS : Hid (∀ W', Below X0.heap.size X0 W' → (fun W' => W'.cell? ⟨wr.heap.size, 0, none⟩ = some (.int .i64 x.k) ∧ W'.cell? ⟨wr.heap.size, 1, none⟩ = some (.int .u64 x.n) ∧ W'.cell? ⟨wr.heap.size, 2, none⟩ = some (.string x.s) ∧ W'.cell? ⟨wr.heap.size, 3, none⟩ = some (.slice x.a x.l.length x.c) ∧ W'.cell? ⟨wr.heap.size, 4, none⟩ = some (.int .i64 x.e) ∧ W'.cell? ⟨bf, j * 9 + 4, none⟩ = some (.int .i64 Z.d.k) ∧ W'.cell? ⟨bf, j * 9 + 4 + 1, none⟩ = some (.int .u64 Z.d.n) ∧ W'.cell? ⟨bf, j * 9 + 4 + 2, none⟩ = some (.string Z.d.s) ∧ W'.cell? ⟨bf, j * 9 + 4 + 3, none⟩ = some (.slice Z.d.a Z.d.l.length Z.d.c) ∧ W'.cell? ⟨bf, j * 9 + 4 + 4, none⟩ = some (.int .i64 Z.d.e)) W') := by
            intro W' hW'
            have e : ∀ o', W'.cell? ⟨bf, o', none⟩ = wr.cell? ⟨bf, o', none⟩ := fun o' => (hW'.cell (p := ⟨bf, o', none⟩) (by show bf < X0.heap.size; have := HBX.out.size; omega)).trans (HBX.out.cell (p := ⟨bf, o', none⟩) hbf')
            have hbx := (hW'.block wr.heap.size HPX.out).trans HBOX.out
            refine ⟨?_, ?_, ?_, ?_, ?_, (e _).trans d0, (e _).trans d1, (e _).trans d2, (e _).trans d3, (e _).trans d4⟩ <;> (unfold World.cell?; simp only [hbx]; rfl)
          have HBR : Hid (Below X0.heap.size X0 X0.drew) := (Below.refl _ _).drew
          have hE := requal_any x Z.d X0.heap.size X0.drew (Nat.le_refl _) (LiesIn.keep HLY.out (fun _ _ _ => rfl) (fun b hq => hq.elim (fun h => by have := hQ b h; have := HBX.out.size; show b < X0.heap.size; omega) (fun h => h.2))) (HDL.out _ _)
          rw [V.val_eq, V.val_eq] at hE
          generalize eqT x.t Z.d.t = g at hE HOUT
          have HE := hide hE
          clear hE
          refine wp_region_held_drew (S := (fun W' => W'.cell? ⟨wr.heap.size, 0, none⟩ = some (.int .i64 x.k) ∧ W'.cell? ⟨wr.heap.size, 1, none⟩ = some (.int .u64 x.n) ∧ W'.cell? ⟨wr.heap.size, 2, none⟩ = some (.string x.s) ∧ W'.cell? ⟨wr.heap.size, 3, none⟩ = some (.slice x.a x.l.length x.c) ∧ W'.cell? ⟨wr.heap.size, 4, none⟩ = some (.int .i64 x.e) ∧ W'.cell? ⟨bf, j * 9 + 4, none⟩ = some (.int .i64 Z.d.k) ∧ W'.cell? ⟨bf, j * 9 + 4 + 1, none⟩ = some (.int .u64 Z.d.n) ∧ W'.cell? ⟨bf, j * 9 + 4 + 2, none⟩ = some (.string Z.d.s) ∧ W'.cell? ⟨bf, j * 9 + 4 + 3, none⟩ = some (.slice Z.d.a Z.d.l.length Z.d.c) ∧ W'.cell? ⟨bf, j * 9 + 4 + 4, none⟩ = some (.int .i64 Z.d.e))) (by kernel_rfl) (HS.out _ HBR.out) (fun hHeld => ?_)
          refine take_do (i := 0) (d := 58) (v := ?_) rfl rfl (by kernel_rfl) (by kernel_rfl) (by kernel_rfl) (fun _ _ _ h => h) rfl ?_ (by assumption) ?_
          rotate_left
          · intro w hSw
            try dsimp only at hSw
            go_simp
            try with_reducible rfl
          try simp only [List.setIfInBounds_toArray, List.set_cons_zero, List.set_cons_succ]
          refine take_do (i := 1) (d := 59) (v := ?_) rfl rfl (by kernel_rfl) (by kernel_rfl) (by kernel_rfl) (fun _ _ _ h => h) rfl ?_ (by assumption) ?_
          rotate_left
          · intro w hSw
            try dsimp only at hSw
            go_simp
            try with_reducible rfl
          try simp only [List.setIfInBounds_toArray, List.set_cons_zero, List.set_cons_succ]
          refine take_do (i := 2) (d := 60) (v := ?_) rfl rfl (by kernel_rfl) (by kernel_rfl) (by kernel_rfl) (fun _ _ _ h => h) rfl ?_ (by assumption) ?_
          rotate_left
          · intro w hSw
            try dsimp only at hSw
            go_simp
            try with_reducible rfl
          try simp only [List.setIfInBounds_toArray, List.set_cons_zero, List.set_cons_succ]
          refine take_do (i := 3) (d := 61) (v := ?_) rfl rfl (by kernel_rfl) (by kernel_rfl) (by kernel_rfl) (fun _ _ _ h => h) rfl ?_ (by assumption) ?_
          rotate_left
          · intro w hSw
            try dsimp only at hSw
            go_simp
            try with_reducible rfl
          try simp only [List.setIfInBounds_toArray, List.set_cons_zero, List.set_cons_succ]
          refine take_do (i := 4) (d := 62) (v := ?_) rfl rfl (by kernel_rfl) (by kernel_rfl) (by kernel_rfl) (fun _ _ _ h => h) rfl ?_ (by assumption) ?_
          rotate_left
          · intro w hSw
            try dsimp only at hSw
            go_simp
            try with_reducible rfl
          try simp only [List.setIfInBounds_toArray, List.set_cons_zero, List.set_cons_succ]
          refine take_do (i := 5) (d := 63) (v := ?_) rfl rfl (by kernel_rfl) (by kernel_rfl) (by kernel_rfl) (fun _ _ _ h => h) rfl ?_ (by assumption) ?_
          rotate_left
          · intro w hSw
            try dsimp only at hSw
            go_simp
            try with_reducible rfl
          try simp only [List.setIfInBounds_toArray, List.set_cons_zero, List.set_cons_succ]
          refine wpAnyH_ready (rs := [6]) (by kernel_rfl) (by simp) ?_
          refine AllReadyH.cons rfl (fun K hK => ?_) AllReadyH.nil
          go_simp
          go_wp2_with (go_at_call 21; refine Calls.mono HE.out ?_; rintro e6 w6 ⟨rfl, hb6⟩; have HB6 : Hid (Below X0.heap.size X0 w6) := HBR.out.trans (hb6.mono (Nat.le_refl _)); clear hb6)
          refine hK.out _ _ (HS.out _ HB6.out) (fun hHeld => ?_)
          clear hK K
          refine take_do (i := 7) (d := 13) (v := ?_) rfl rfl (by kernel_rfl) (by kernel_rfl) (by kernel_rfl) (fun _ _ _ h => h) rfl ?_ (by assumption) ?_
          rotate_left
          · intro w hSw
            try dsimp only at hSw
            go_simp
            try with_reducible rfl
          try simp only [List.setIfInBounds_toArray, List.set_cons_zero, List.set_cons_succ]
          refine wpAnyH_done (by kernel_rfl) ?_ _
          have HBW6 : Hid (Below wr.heap.size wr w6) := HBX.out.trans (HB6.out.mono HBX.out.size)
          have HX6 : Hid (w6.heap[wr.heap.size]? = some (.cells #[.int .i64 x.k, .int .u64 x.n, .string x.s, .slice x.a x.l.length x.c, .int .i64 x.e] 42 (0, 0))) := (HB6.out.block wr.heap.size HPX.out).trans HBOX.out
          have hp6 : wr.heap.size < w6.heap.size := by have := HB6.out.size; have := HPX.out; omega
          have HLY6 : Hid (LiesIn (fun q => Q q ∨ (wr.heap.size ≤ q ∧ q < w6.heap.size)) w6 x) := LiesIn.keep HLY.out (fun b hq o' => HB6.out.cell (p := ⟨b, o', none⟩) (hq.elim (fun h => by have := hQ b h; have := HBX.out.size; show b < X0.heap.size; omega) (fun h => h.2))) (fun b hq => hq.elim .inl (fun h => .inr ⟨h.1, by have := HB6.out.size; omega⟩))
          clear HE HS HBR d0 d1 d2 d3 d4
          cases g
          · obtain ⟨⟨c0, c1, c2, c3, c4⟩⟩ : ∃ _ : (w6.cell? ⟨wr.heap.size, 0, none⟩ = some (.int .i64 x.k) ∧ w6.cell? ⟨wr.heap.size, 1, none⟩ = some (.int .u64 x.n) ∧ w6.cell? ⟨wr.heap.size, 2, none⟩ = some (.string x.s) ∧ w6.cell? ⟨wr.heap.size, 3, none⟩ = some (.slice x.a x.l.length x.c) ∧ w6.cell? ⟨wr.heap.size, 4, none⟩ = some (.int .i64 x.e)), True := by
              have hx6 := HX6.out
              exact ⟨⟨by unfold World.cell?; simp only [hx6]; rfl, by unfold World.cell?; simp only [hx6]; rfl, by unfold World.cell?; simp only [hx6]; rfl, by unfold World.cell?; simp only [hx6]; rfl, by unfold World.cell?; simp only [hx6]; rfl⟩, trivial⟩
            have HOWN : Hid (∀ o, (w6.alloc o).ownsRow W0.heap.size 42 5 (.slice A j C) j (flat L)) := fun o => by
              have := (ownsRow_keep HG.out.1 (fun g hg => HBW6.out.block g (ownsRow_lt HG.out.1 hg).2)).alloc o
              rwa [HLJ.out] at this
            go_wp2_with (at_builtin; refine wpList_append_own_at _ rfl (.tmp 67) (.tmp 69) 31 rfl W0.heap.size 42 i0 _ 5 64 Tryz.underlying31 HI0.out HI.out.1 HI.out.2.1 HI.out.2.2 rfl (by decide) _ j (flat L) rfl (HOWN.out _) ⟨w6.heap.size, 0, none⟩ 1 1 (words x) rfl rfl (newsR w6 _ _ _ _ _ _) (V.words_one _) (by simp [maxLen]; omega) (by omega) (by simp; omega) ?_; intro v' w7 hown' hgrow _ hat; obtain ⟨g', cap', rfl⟩ := ownsRow_succ hown')
            obtain ⟨hG7, hB7⟩ := GLL.push (Y := x) HG.out HQ0.out hlo HBW6.out HLY6.out (by rw [HLJ.out]; exact hown') hgrow hat
            have HG7 := hide hG7
            have HB7 : Hid (Below W0.heap.size W0 w7) := HBR0.out.trans hB7
            clear hG7 hB7 hown' hgrow hat
            go_roundw
            case rel => exact ⟨j + 1, some ⟨g', 0, none⟩, cap', by go_num, rfl, hjN, HB7, L ++ [x], HT1.out.next HLJ.out HOUT.out, by simp [HLJ.out], HG7.out⟩
            case measure => simp [intOf]; omega
          · obtain ⟨X7, hX7⟩ : ∃ X7, w6.setRow wr.heap.size #[.int .i64 0, .int .u64 0, .string ⟨#[]⟩, .slice none 0 0, .int .i64 0] = X7 := ⟨_, rfl⟩
            have HBW7 : Hid (Below wr.heap.size wr X7) := by rw [← hX7]; exact setR_below HBW6.out (Nat.le_refl _) _
            have hp7 : wr.heap.size < X7.heap.size := by rw [← hX7, setR_size]; exact hp6
            have hx7 : X7.heap[wr.heap.size]? = some (.cells #[.int .i64 0, .int .u64 0, .string ⟨#[]⟩, .slice none 0 0, .int .i64 0] 42 (0, 0)) := by rw [← hX7]; exact setR_at HX6.out _
            obtain ⟨⟨c0, c1, c2, c3, c4⟩⟩ : ∃ _ : (X7.cell? ⟨wr.heap.size, 0, none⟩ = some (.int .i64 0) ∧ X7.cell? ⟨wr.heap.size, 1, none⟩ = some (.int .u64 0) ∧ X7.cell? ⟨wr.heap.size, 2, none⟩ = some (.string ⟨#[]⟩) ∧ X7.cell? ⟨wr.heap.size, 3, none⟩ = some (.slice none 0 0) ∧ X7.cell? ⟨wr.heap.size, 4, none⟩ = some (.int .i64 0)), True := ⟨⟨by unfold World.cell?; simp only [hx7]; rfl, by unfold World.cell?; simp only [hx7]; rfl, by unfold World.cell?; simp only [hx7]; rfl, by unfold World.cell?; simp only [hx7]; rfl, by unfold World.cell?; simp only [hx7]; rfl⟩, trivial⟩
            have HX7 := hide hX7
            have HOWN : Hid (∀ o, (X7.alloc o).ownsRow W0.heap.size 42 5 (.slice A j C) j (flat L)) := fun o => by
              have := (ownsRow_keep HG.out.1 (fun g hg => HBW7.out.block g (ownsRow_lt HG.out.1 hg).2)).alloc o
              rwa [HLJ.out] at this
            clear hX7 hx7
            go_wp2_with (first | (refine wpList_store_row rfl 42 (.tmp 7) (.tmp 66) rfl wr.heap.size #[.int .i64 0, .int .u64 0, .string ⟨#[]⟩, .slice none 0 0, .int .i64 0] rfl rfl 42 _ HX6.out Tryz.sizeV rfl (by kernel_rfl) ?_; rw [HX7.out]) | (at_builtin; refine wpList_append_own_at _ rfl (.tmp 67) (.tmp 69) 31 rfl W0.heap.size 42 i0 _ 5 64 Tryz.underlying31 HI0.out HI.out.1 HI.out.2.1 HI.out.2.2 rfl (by decide) _ j (flat L) rfl (HOWN.out _) ⟨X7.heap.size, 0, none⟩ 1 1 [.int .i64 0, .int .u64 0, .string ⟨#[]⟩, .slice none 0 0, .int .i64 0] rfl rfl (newsR X7 _ _ _ _ _ _) (by rw [← words_nul]; exact V.words_one _) (by simp [maxLen]; omega) (by omega) (by simp; omega) ?_; intro v' w7 hown' hgrow _ hat; obtain ⟨g', cap', rfl⟩ := ownsRow_succ hown'))
            obtain ⟨hG7, hB7⟩ := GLL.push (Y := nul) HG.out HQ0.out hlo HBW7.out (LiesIn.keep (nul_lies' 0 _) (fun _ _ _ => rfl) (fun b h => absurd h (Nat.not_lt_zero _))) (by rw [HLJ.out, words_nul]; exact hown') hgrow hat
            have HG7 := hide hG7
            have HB7 : Hid (Below W0.heap.size W0 w7) := HBR0.out.trans hB7
            clear hG7 hB7 hown' hgrow hat
            go_roundw
            case rel => exact ⟨j + 1, some ⟨g', 0, none⟩, cap', by go_num, rfl, hjN, HB7, L ++ [nul], HT1.out.next HLJ.out HOUT.out, by simp [HLJ.out], HG7.out⟩
            case measure => simp [intOf]; omega
        · rw [h102] at cty
          rw [hxk] at x0 HX0 HBOX
          go_wp2_with fail
          rw [HX0.out]
          rw [← hxk] at HBOX
          have HXK := hide hxk
          clear hxk
          have HS : Hid (∀ W', Below X0.heap.size X0 W' → (fun W' => W'.cell? ⟨wr.heap.size, 0, none⟩ = some (.int .i64 x.k) ∧ W'.cell? ⟨wr.heap.size, 1, none⟩ = some (.int .u64 x.n) ∧ W'.cell? ⟨wr.heap.size, 2, none⟩ = some (.string x.s) ∧ W'.cell? ⟨wr.heap.size, 3, none⟩ = some (.slice x.a x.l.length x.c) ∧ W'.cell? ⟨wr.heap.size, 4, none⟩ = some (.int .i64 x.e) ∧ W'.cell? ⟨bf, j * 9 + 4, none⟩ = some (.int .i64 Z.d.k) ∧ W'.cell? ⟨bf, j * 9 + 4 + 1, none⟩ = some (.int .u64 Z.d.n) ∧ W'.cell? ⟨bf, j * 9 + 4 + 2, none⟩ = some (.string Z.d.s) ∧ W'.cell? ⟨bf, j * 9 + 4 + 3, none⟩ = some (.slice Z.d.a Z.d.l.length Z.d.c) ∧ W'.cell? ⟨bf, j * 9 + 4 + 4, none⟩ = some (.int .i64 Z.d.e)) W') := by
            intro W' hW'
            have e : ∀ o', W'.cell? ⟨bf, o', none⟩ = wr.cell? ⟨bf, o', none⟩ := fun o' => (hW'.cell (p := ⟨bf, o', none⟩) (by show bf < X0.heap.size; have := HBX.out.size; omega)).trans (HBX.out.cell (p := ⟨bf, o', none⟩) hbf')
            have hbx := (hW'.block wr.heap.size HPX.out).trans HBOX.out
            refine ⟨?_, ?_, ?_, ?_, ?_, (e _).trans d0, (e _).trans d1, (e _).trans d2, (e _).trans d3, (e _).trans d4⟩ <;> (unfold World.cell?; simp only [hbx]; rfl)
          have HBR : Hid (Below X0.heap.size X0 X0.drew) := (Below.refl _ _).drew
          have hE := requal_any x Z.d X0.heap.size X0.drew (Nat.le_refl _) (LiesIn.keep HLY.out (fun _ _ _ => rfl) (fun b hq => hq.elim (fun h => by have := hQ b h; have := HBX.out.size; show b < X0.heap.size; omega) (fun h => h.2))) (HDL.out _ _)
          rw [V.val_eq, V.val_eq] at hE
          generalize eqT x.t Z.d.t = g at hE HOUT
          have HE := hide hE
          clear hE
          refine wp_region_held_drew (S := (fun W' => W'.cell? ⟨wr.heap.size, 0, none⟩ = some (.int .i64 x.k) ∧ W'.cell? ⟨wr.heap.size, 1, none⟩ = some (.int .u64 x.n) ∧ W'.cell? ⟨wr.heap.size, 2, none⟩ = some (.string x.s) ∧ W'.cell? ⟨wr.heap.size, 3, none⟩ = some (.slice x.a x.l.length x.c) ∧ W'.cell? ⟨wr.heap.size, 4, none⟩ = some (.int .i64 x.e) ∧ W'.cell? ⟨bf, j * 9 + 4, none⟩ = some (.int .i64 Z.d.k) ∧ W'.cell? ⟨bf, j * 9 + 4 + 1, none⟩ = some (.int .u64 Z.d.n) ∧ W'.cell? ⟨bf, j * 9 + 4 + 2, none⟩ = some (.string Z.d.s) ∧ W'.cell? ⟨bf, j * 9 + 4 + 3, none⟩ = some (.slice Z.d.a Z.d.l.length Z.d.c) ∧ W'.cell? ⟨bf, j * 9 + 4 + 4, none⟩ = some (.int .i64 Z.d.e))) (by kernel_rfl) (HS.out _ HBR.out) (fun hHeld => ?_)
          refine take_do (i := 0) (d := 58) (v := ?_) rfl rfl (by kernel_rfl) (by kernel_rfl) (by kernel_rfl) (fun _ _ _ h => h) rfl ?_ (by assumption) ?_
          rotate_left
          · intro w hSw
            try dsimp only at hSw
            go_simp
            try with_reducible rfl
          try simp only [List.setIfInBounds_toArray, List.set_cons_zero, List.set_cons_succ]
          refine take_do (i := 1) (d := 59) (v := ?_) rfl rfl (by kernel_rfl) (by kernel_rfl) (by kernel_rfl) (fun _ _ _ h => h) rfl ?_ (by assumption) ?_
          rotate_left
          · intro w hSw
            try dsimp only at hSw
            go_simp
            try with_reducible rfl
          try simp only [List.setIfInBounds_toArray, List.set_cons_zero, List.set_cons_succ]
          refine take_do (i := 2) (d := 60) (v := ?_) rfl rfl (by kernel_rfl) (by kernel_rfl) (by kernel_rfl) (fun _ _ _ h => h) rfl ?_ (by assumption) ?_
          rotate_left
          · intro w hSw
            try dsimp only at hSw
            go_simp
            try with_reducible rfl
          try simp only [List.setIfInBounds_toArray, List.set_cons_zero, List.set_cons_succ]
          refine take_do (i := 3) (d := 61) (v := ?_) rfl rfl (by kernel_rfl) (by kernel_rfl) (by kernel_rfl) (fun _ _ _ h => h) rfl ?_ (by assumption) ?_
          rotate_left
          · intro w hSw
            try dsimp only at hSw
            go_simp
            try with_reducible rfl
          try simp only [List.setIfInBounds_toArray, List.set_cons_zero, List.set_cons_succ]
          refine take_do (i := 4) (d := 62) (v := ?_) rfl rfl (by kernel_rfl) (by kernel_rfl) (by kernel_rfl) (fun _ _ _ h => h) rfl ?_ (by assumption) ?_
          rotate_left
          · intro w hSw
            try dsimp only at hSw
            go_simp
            try with_reducible rfl
          try simp only [List.setIfInBounds_toArray, List.set_cons_zero, List.set_cons_succ]
          refine take_do (i := 5) (d := 63) (v := ?_) rfl rfl (by kernel_rfl) (by kernel_rfl) (by kernel_rfl) (fun _ _ _ h => h) rfl ?_ (by assumption) ?_
          rotate_left
          · intro w hSw
            try dsimp only at hSw
            go_simp
            try with_reducible rfl
          try simp only [List.setIfInBounds_toArray, List.set_cons_zero, List.set_cons_succ]
          refine wpAnyH_ready (rs := [6]) (by kernel_rfl) (by simp) ?_
          refine AllReadyH.cons rfl (fun K hK => ?_) AllReadyH.nil
          go_simp
          go_wp2_with (go_at_call 21; refine Calls.mono HE.out ?_; rintro e6 w6 ⟨rfl, hb6⟩; have HB6 : Hid (Below X0.heap.size X0 w6) := HBR.out.trans (hb6.mono (Nat.le_refl _)); clear hb6)
          refine hK.out _ _ (HS.out _ HB6.out) (fun hHeld => ?_)
          clear hK K
          refine take_do (i := 7) (d := 13) (v := ?_) rfl rfl (by kernel_rfl) (by kernel_rfl) (by kernel_rfl) (fun _ _ _ h => h) rfl ?_ (by assumption) ?_
          rotate_left
          · intro w hSw
            try dsimp only at hSw
            go_simp
            try with_reducible rfl
          try simp only [List.setIfInBounds_toArray, List.set_cons_zero, List.set_cons_succ]
          refine wpAnyH_done (by kernel_rfl) ?_ _
          have HBW6 : Hid (Below wr.heap.size wr w6) := HBX.out.trans (HB6.out.mono HBX.out.size)
          have HX6 : Hid (w6.heap[wr.heap.size]? = some (.cells #[.int .i64 x.k, .int .u64 x.n, .string x.s, .slice x.a x.l.length x.c, .int .i64 x.e] 42 (0, 0))) := (HB6.out.block wr.heap.size HPX.out).trans HBOX.out
          have hp6 : wr.heap.size < w6.heap.size := by have := HB6.out.size; have := HPX.out; omega
          have HLY6 : Hid (LiesIn (fun q => Q q ∨ (wr.heap.size ≤ q ∧ q < w6.heap.size)) w6 x) := LiesIn.keep HLY.out (fun b hq o' => HB6.out.cell (p := ⟨b, o', none⟩) (hq.elim (fun h => by have := hQ b h; have := HBX.out.size; show b < X0.heap.size; omega) (fun h => h.2))) (fun b hq => hq.elim .inl (fun h => .inr ⟨h.1, by have := HB6.out.size; omega⟩))
          clear HE HS HBR d0 d1 d2 d3 d4
          cases g
          · obtain ⟨⟨c0, c1, c2, c3, c4⟩⟩ : ∃ _ : (w6.cell? ⟨wr.heap.size, 0, none⟩ = some (.int .i64 x.k) ∧ w6.cell? ⟨wr.heap.size, 1, none⟩ = some (.int .u64 x.n) ∧ w6.cell? ⟨wr.heap.size, 2, none⟩ = some (.string x.s) ∧ w6.cell? ⟨wr.heap.size, 3, none⟩ = some (.slice x.a x.l.length x.c) ∧ w6.cell? ⟨wr.heap.size, 4, none⟩ = some (.int .i64 x.e)), True := by
              have hx6 := HX6.out
              exact ⟨⟨by unfold World.cell?; simp only [hx6]; rfl, by unfold World.cell?; simp only [hx6]; rfl, by unfold World.cell?; simp only [hx6]; rfl, by unfold World.cell?; simp only [hx6]; rfl, by unfold World.cell?; simp only [hx6]; rfl⟩, trivial⟩
            have HOWN : Hid (∀ o, (w6.alloc o).ownsRow W0.heap.size 42 5 (.slice A j C) j (flat L)) := fun o => by
              have := (ownsRow_keep HG.out.1 (fun g hg => HBW6.out.block g (ownsRow_lt HG.out.1 hg).2)).alloc o
              rwa [HLJ.out] at this
            go_wp2_with (at_builtin; refine wpList_append_own_at _ rfl (.tmp 67) (.tmp 69) 31 rfl W0.heap.size 42 i0 _ 5 64 Tryz.underlying31 HI0.out HI.out.1 HI.out.2.1 HI.out.2.2 rfl (by decide) _ j (flat L) rfl (HOWN.out _) ⟨w6.heap.size, 0, none⟩ 1 1 (words x) rfl rfl (newsR w6 _ _ _ _ _ _) (V.words_one _) (by simp [maxLen]; omega) (by omega) (by simp; omega) ?_; intro v' w7 hown' hgrow _ hat; obtain ⟨g', cap', rfl⟩ := ownsRow_succ hown')
            obtain ⟨hG7, hB7⟩ := GLL.push (Y := x) HG.out HQ0.out hlo HBW6.out HLY6.out (by rw [HLJ.out]; exact hown') hgrow hat
            have HG7 := hide hG7
            have HB7 : Hid (Below W0.heap.size W0 w7) := HBR0.out.trans hB7
            clear hG7 hB7 hown' hgrow hat
            go_roundw
            case rel => exact ⟨j + 1, some ⟨g', 0, none⟩, cap', by go_num, rfl, hjN, HB7, L ++ [x], HT1.out.next HLJ.out HOUT.out, by simp [HLJ.out], HG7.out⟩
            case measure => simp [intOf]; omega
          · obtain ⟨X7, hX7⟩ : ∃ X7, w6.setRow wr.heap.size #[.int .i64 0, .int .u64 0, .string ⟨#[]⟩, .slice none 0 0, .int .i64 0] = X7 := ⟨_, rfl⟩
            have HBW7 : Hid (Below wr.heap.size wr X7) := by rw [← hX7]; exact setR_below HBW6.out (Nat.le_refl _) _
            have hp7 : wr.heap.size < X7.heap.size := by rw [← hX7, setR_size]; exact hp6
            have hx7 : X7.heap[wr.heap.size]? = some (.cells #[.int .i64 0, .int .u64 0, .string ⟨#[]⟩, .slice none 0 0, .int .i64 0] 42 (0, 0)) := by rw [← hX7]; exact setR_at HX6.out _
            obtain ⟨⟨c0, c1, c2, c3, c4⟩⟩ : ∃ _ : (X7.cell? ⟨wr.heap.size, 0, none⟩ = some (.int .i64 0) ∧ X7.cell? ⟨wr.heap.size, 1, none⟩ = some (.int .u64 0) ∧ X7.cell? ⟨wr.heap.size, 2, none⟩ = some (.string ⟨#[]⟩) ∧ X7.cell? ⟨wr.heap.size, 3, none⟩ = some (.slice none 0 0) ∧ X7.cell? ⟨wr.heap.size, 4, none⟩ = some (.int .i64 0)), True := ⟨⟨by unfold World.cell?; simp only [hx7]; rfl, by unfold World.cell?; simp only [hx7]; rfl, by unfold World.cell?; simp only [hx7]; rfl, by unfold World.cell?; simp only [hx7]; rfl, by unfold World.cell?; simp only [hx7]; rfl⟩, trivial⟩
            have HX7 := hide hX7
            have HOWN : Hid (∀ o, (X7.alloc o).ownsRow W0.heap.size 42 5 (.slice A j C) j (flat L)) := fun o => by
              have := (ownsRow_keep HG.out.1 (fun g hg => HBW7.out.block g (ownsRow_lt HG.out.1 hg).2)).alloc o
              rwa [HLJ.out] at this
            clear hX7 hx7
            go_wp2_with (first | (refine wpList_store_row rfl 42 (.tmp 7) (.tmp 66) rfl wr.heap.size #[.int .i64 0, .int .u64 0, .string ⟨#[]⟩, .slice none 0 0, .int .i64 0] rfl rfl 42 _ HX6.out Tryz.sizeV rfl (by kernel_rfl) ?_; rw [HX7.out]) | (at_builtin; refine wpList_append_own_at _ rfl (.tmp 67) (.tmp 69) 31 rfl W0.heap.size 42 i0 _ 5 64 Tryz.underlying31 HI0.out HI.out.1 HI.out.2.1 HI.out.2.2 rfl (by decide) _ j (flat L) rfl (HOWN.out _) ⟨X7.heap.size, 0, none⟩ 1 1 [.int .i64 0, .int .u64 0, .string ⟨#[]⟩, .slice none 0 0, .int .i64 0] rfl rfl (newsR X7 _ _ _ _ _ _) (by rw [← words_nul]; exact V.words_one _) (by simp [maxLen]; omega) (by omega) (by simp; omega) ?_; intro v' w7 hown' hgrow _ hat; obtain ⟨g', cap', rfl⟩ := ownsRow_succ hown'))
            obtain ⟨hG7, hB7⟩ := GLL.push (Y := nul) HG.out HQ0.out hlo HBW7.out (LiesIn.keep (nul_lies' 0 _) (fun _ _ _ => rfl) (fun b h => absurd h (Nat.not_lt_zero _))) (by rw [HLJ.out, words_nul]; exact hown') hgrow hat
            have HG7 := hide hG7
            have HB7 : Hid (Below W0.heap.size W0 w7) := HBR0.out.trans hB7
            clear hG7 hB7 hown' hgrow hat
            go_roundw
            case rel => exact ⟨j + 1, some ⟨g', 0, none⟩, cap', by go_num, rfl, hjN, HB7, L ++ [nul], HT1.out.next HLJ.out HOUT.out, by simp [HLJ.out], HG7.out⟩
            case measure => simp [intOf]; omega
    · obtain rfl : j = N := by omega
      have hTL : V.ts L = OO := by
        have := HT1.out
        unfold OutTo at this
        rw [this]
        refine List.take_of_length_le ?_
        have h1 := HN.out
        have h2 := HYN.out
        rw [← HOO.out, outs_len _ _ (by rw [rpT_len (by omega)]; simp), rpT_len (by omega)]
        omega
      obtain ⟨hst, hds, hrl⟩ := HFIN.out L hTL HLJ.out
      have hC : j ≤ C ∧ (0 < j → ∃ g, A = some ⟨g, 0, none⟩ ∧ W0.heap.size ≤ g ∧ g < wr.heap.size ∧ Row wr g 0 L) := by
        rcases HG.out.1.2 with ⟨h, h0⟩ | ⟨g, cap, cur, h, hB, hgg, hnc, hm, hcs, _⟩
        · have := HLJ.out
          exact ⟨by omega, fun h => by omega⟩
        · simp only [Value.slice.injEq] at h
          obtain ⟨rfl, _, rfl⟩ := h
          have := HLJ.out
          exact ⟨by omega, fun _ => ⟨g, rfl, hB, (Array.getElem?_eq_some_iff.1 hgg).1, by
            have h := HG.out.1
            rw [HLJ.out] at h
            exact flat_row h⟩⟩
      have hlt1 : W.heap.size + 1 < wr.heap.size := by omega
      have HENDP : Hid (∀ m, m ≤ j → stripN (V.ts L) j = m → ∃ z : V, Ending.returned (.agg #[.int .i64 24, .int .u64 0, .string ⟨#[]⟩, .slice (some ⟨wr.heap.size, 0, none⟩) 2 2, .int .i64 0]) = .returned (.agg #[.int .i64 z.k, .int .u64 z.n, .string z.s, .slice z.a z.l.length z.c, .int .i64 z.e]) ∧ Hid (z.t = laidT k (rpT l ys) ∧ LiesIn (fun q => Q q ∨ (W.heap.size ≤ q ∧ q < ((wr.setRow (W.heap.size + 1) #[.int .i64 24, .int .u64 0, .string ⟨#[]⟩, .slice (some ⟨wr.heap.size, 0, none⟩) 2 2, .int .i64 0]).alloc (.cells #[.int .i64 5, .int .u64 k, .string ⟨#[]⟩, .slice none 0 0, .int .i64 0, .int .i64 21, .int .u64 0, .string ⟨#[]⟩, .slice A m C, .int .i64 0] 42)).heap.size)) ((wr.setRow (W.heap.size + 1) #[.int .i64 24, .int .u64 0, .string ⟨#[]⟩, .slice (some ⟨wr.heap.size, 0, none⟩) 2 2, .int .i64 0]).alloc (.cells #[.int .i64 5, .int .u64 k, .string ⟨#[]⟩, .slice none 0 0, .int .i64 0, .int .i64 21, .int .u64 0, .string ⟨#[]⟩, .slice A m C, .int .i64 0] 42)) z) ∧ Below W.heap.size W ((wr.setRow (W.heap.size + 1) #[.int .i64 24, .int .u64 0, .string ⟨#[]⟩, .slice (some ⟨wr.heap.size, 0, none⟩) 2 2, .int .i64 0]).alloc (.cells #[.int .i64 5, .int .u64 k, .string ⟨#[]⟩, .slice none 0 0, .int .i64 0, .int .i64 21, .int .u64 0, .string ⟨#[]⟩, .slice A m C, .int .i64 0] 42))) := fun m hm hsm => by
        have hsr := setR_size wr (W.heap.size + 1) #[.int .i64 24, .int .u64 0, .string ⟨#[]⟩, .slice (some ⟨wr.heap.size, 0, none⟩) 2 2, .int .i64 0]
        have hbs : Below W.heap.size W (wr.setRow (W.heap.size + 1) #[.int .i64 24, .int .u64 0, .string ⟨#[]⟩, .slice (some ⟨wr.heap.size, 0, none⟩) 2 2, .int .i64 0]) := setR_below HBW.out (by omega) _
        have hbf : Below W.heap.size W ((wr.setRow (W.heap.size + 1) #[.int .i64 24, .int .u64 0, .string ⟨#[]⟩, .slice (some ⟨wr.heap.size, 0, none⟩) 2 2, .int .i64 0]).alloc (.cells #[.int .i64 5, .int .u64 k, .string ⟨#[]⟩, .slice none 0 0, .int .i64 0, .int .i64 21, .int .u64 0, .string ⟨#[]⟩, .slice A m C, .int .i64 0] 42)) := bel1 hbs (by rw [hsr]; omega) _
        have hxs : ((wr.setRow (W.heap.size + 1) #[.int .i64 24, .int .u64 0, .string ⟨#[]⟩, .slice (some ⟨wr.heap.size, 0, none⟩) 2 2, .int .i64 0]).alloc (.cells #[.int .i64 5, .int .u64 k, .string ⟨#[]⟩, .slice none 0 0, .int .i64 0, .int .i64 21, .int .u64 0, .string ⟨#[]⟩, .slice A m C, .int .i64 0] 42)).heap.size = wr.heap.size + 1 := by simp [hsr]
        have hkeep : ∀ b, b < wr.heap.size → b ≠ W.heap.size + 1 → ((wr.setRow (W.heap.size + 1) #[.int .i64 24, .int .u64 0, .string ⟨#[]⟩, .slice (some ⟨wr.heap.size, 0, none⟩) 2 2, .int .i64 0]).alloc (.cells #[.int .i64 5, .int .u64 k, .string ⟨#[]⟩, .slice none 0 0, .int .i64 0, .int .i64 21, .int .u64 0, .string ⟨#[]⟩, .slice A m C, .int .i64 0] 42)).heap[b]? = wr.heap[b]? := fun b h1 h2 => (Below.heap_alloc _ _ _ (by rw [hsr]; exact h1)).trans (setR_ne wr (by omega) _)
        have hnew : ((wr.setRow (W.heap.size + 1) #[.int .i64 24, .int .u64 0, .string ⟨#[]⟩, .slice (some ⟨wr.heap.size, 0, none⟩) 2 2, .int .i64 0]).alloc (.cells #[.int .i64 5, .int .u64 k, .string ⟨#[]⟩, .slice none 0 0, .int .i64 0, .int .i64 21, .int .u64 0, .string ⟨#[]⟩, .slice A m C, .int .i64 0] 42)).heap[wr.heap.size]? = some (.cells #[.int .i64 5, .int .u64 k, .string ⟨#[]⟩, .slice none 0 0, .int .i64 0, .int .i64 21, .int .u64 0, .string ⟨#[]⟩, .slice A m C, .int .i64 0] 42 (0, 0)) := by
          have := World.alloc_heap_new (wr.setRow (W.heap.size + 1) #[.int .i64 24, .int .u64 0, .string ⟨#[]⟩, .slice (some ⟨wr.heap.size, 0, none⟩) 2 2, .int .i64 0]) (.cells #[.int .i64 5, .int .u64 k, .string ⟨#[]⟩, .slice none 0 0, .int .i64 0, .int .i64 21, .int .u64 0, .string ⟨#[]⟩, .slice A m C, .int .i64 0] 42)
          rwa [hsr] at this
        generalize ((wr.setRow (W.heap.size + 1) #[.int .i64 24, .int .u64 0, .string ⟨#[]⟩, .slice (some ⟨wr.heap.size, 0, none⟩) 2 2, .int .i64 0]).alloc (.cells #[.int .i64 5, .int .u64 k, .string ⟨#[]⟩, .slice none 0 0, .int .i64 0, .int .i64 21, .int .u64 0, .string ⟨#[]⟩, .slice A m C, .int .i64 0] 42)) = WF at hxs hkeep hnew hbf ⊢
        have htl : (L.take m).length = m := by rw [List.length_take]; have := HLJ.out; omega
        have hcell : ∀ o, WF.cell? ⟨wr.heap.size, o, none⟩ = (#[.int .i64 5, .int .u64 k, .string ⟨#[]⟩, .slice none 0 0, .int .i64 0, .int .i64 21, .int .u64 0, .string ⟨#[]⟩, .slice A m C, .int .i64 0] : Array Value)[o]? := fun o => by
          show (match WF.heap[wr.heap.size]? with | some (.cells c _ _) => c[o]? | _ => none) = _
          rw [hnew]
        refine ⟨V.of 24 0 ⟨#[]⟩ (some ⟨wr.heap.size, 0, none⟩) 2 0 [leaf 5 k ⟨#[]⟩, V.of 21 0 ⟨#[]⟩ A C 0 (L.take m)], by rw [V.l_of]; rfl, ⟨?_, ?_⟩, hbf⟩
        · unfold laidT
          rw [hds, hrl, ← hst, hsm, V.t_of]
          show T.of 24 0 ⟨#[]⟩ 0 [(leaf 5 k ⟨#[]⟩).t, (V.of 21 0 ⟨#[]⟩ A C 0 (L.take m)).t] = _
          rw [leaf_t, V.t_of, V.ts_map, List.map_take, ← V.ts_map, hTL, ← HOO.out]
        · refine .mk ⟨by decide, by decide, by decide, by decide, by simp, by simp⟩ (fun _ => ⟨wr.heap.size, 0, rfl, .inr ⟨by omega, by omega⟩, ?_⟩) ?_
          · intro i hi
            have h2 : i < 2 := hi
            simp only [hcell]
            obtain rfl | rfl : i = 0 ∨ i = 1 := by omega
            · exact ⟨rfl, rfl, rfl, rfl, rfl⟩
            · show _ ∧ _ ∧ _ ∧ (some (Value.slice A m C) = some (Value.slice (V.of 21 0 ⟨#[]⟩ A C 0 (L.take m)).a (V.of 21 0 ⟨#[]⟩ A C 0 (L.take m)).l.length (V.of 21 0 ⟨#[]⟩ A C 0 (L.take m)).c)) ∧ _
              refine ⟨rfl, rfl, rfl, ?_, rfl⟩
              rw [V.l_of, htl]
              rfl
          · intro x hx
            simp only [List.mem_cons, List.not_mem_nil, or_false] at hx
            rcases hx with rfl | rfl
            · exact leaf_in _ _ _ _ _ (by decide) ⟨by omega, by omega⟩ (by decide)
            · have hcj := hC.1
              refine .mk ⟨by decide, by decide, by decide, by decide, by omega, by omega⟩ (fun h0 => ?_) ?_
              · obtain ⟨gl, e, q1, q2, q3⟩ := hC.2 (by omega)
                exact ⟨gl, 0, e, .inr ⟨by omega, by omega⟩, (row_takeF q3 m).same (fun o => World.cell?_of_block (hkeep gl q2 (by omega)))⟩
              · intro x hx
                refine LiesIn.keep (HG.out.2 x (List.mem_of_mem_take hx)) (fun b hq o' => World.cell?_of_block (hq.elim (fun h => hkeep b (by have := hQ b h; omega) (by have := hQ b h; omega)) (fun h => hkeep b h.2.1 (by omega)))) (fun b hq => hq.elim .inl (fun h => .inr ⟨by omega, by omega⟩))
      have HRW : Hid (∀ m, ((wr.setRow (W.heap.size + 1) #[.int .i64 24, .int .u64 0, .string ⟨#[]⟩, .slice (some ⟨wr.heap.size, 0, none⟩) 2 2, .int .i64 0]).alloc (.cells #[.int .i64 5, .int .u64 k, .string ⟨#[]⟩, .slice none 0 0, .int .i64 0, .int .i64 21, .int .u64 0, .string ⟨#[]⟩, .slice A m C, .int .i64 0] 42)).heap[W.heap.size + 1]? = some (.cells #[.int .i64 24, .int .u64 0, .string ⟨#[]⟩, .slice (some ⟨wr.heap.size, 0, none⟩) 2 2, .int .i64 0] 42 (0, 0))) := fun m => heap_past (setR_at HKZ.out _) _
      have HCC := hide hC
      have hjC := hC.1
      clear hC hTL hst hds hrl
      go_wp2
      go_loopw [5] (fun lv wx => ∃ m : Nat, lv = .slice A m C ∧ m ≤ j ∧ Hid (wx = wr) ∧ Hid (stripN (V.ts L) j = stripN (V.ts L) m)) (fun lv _ => lenS lv)
      case atStart => exact ⟨j, rfl, Nat.le_refl _, rfl, rfl⟩
      case round =>
        obtain ⟨m, rfl, hm, HWX, HZ⟩ := hrel
        have hwx := HWX.out
        subst hwx
        by_cases hm0 : 0 < m
        · obtain ⟨m', rfl⟩ : ∃ m', m = m' + 1 := ⟨m - 1, by omega⟩
          obtain ⟨g, rfl, hg1, hg2, hgr⟩ := HCC.out.2 (by omega)
          have hmL : m' < L.length := by have := HLJ.out; omega
          have hc0 := (hgr m' hmL).1
          rw [Nat.zero_add] at hc0
          have hm20 : m' ≤ 20 := by omega
          have HAT := hide (stripN_at hmL)
          by_cases hk : L[m'].k = 0
          · rw [hk] at hc0
            have hcut : ∀ W, (Instr.slice 31 (.slice (some ⟨g, 0, none⟩) (m' + 1) C) none (some (.int .i64 (m' : Int))) none).run Tryz.prog W = .ok (.slice (some ⟨g, 0, none⟩) m' C) W := fun W => cutTo _ _ _ _ _ rfl (by omega) W
            have HK := hide hk
            clear hk hgr
            go_wp2
            go_roundw
            case rel => exact ⟨m', rfl, by omega, by trivial, by rw [Hid, HZ.out, HAT.out, if_pos HK.out]⟩
            case measure => simp [lenS]
          · have hkb : (L[m'].k == 0) = false := by simpa using hk
            have HFM : Hid (stripN (V.ts L) j = m' + 1) := by rw [Hid, HZ.out, HAT.out, if_neg hk]
            clear hk hgr
            go_wp2_with (refine wpList_store_row rfl 42 (.tmp 4) (.tmp 96) rfl (W.heap.size + 1) #[.int .i64 24, .int .u64 0, .string ⟨#[]⟩, .slice (some ⟨wr.heap.size, 0, none⟩) 2 2, .int .i64 0] rfl rfl 42 _ (heap_past HKZ.out _) Tryz.sizeV rfl (by kernel_rfl) ?_; rw [setRow_under hlt1])
            refine bodyPost_ret (v := .agg #[.int .i64 24, .int .u64 0, .string ⟨#[]⟩, .slice (some ⟨wr.heap.size, 0, none⟩) 2 2, .int .i64 0]) (results_cell_row Tryz.results37 _ _ (W.heap.size + 1) 42 #[.int .i64 24, .int .u64 0, .string ⟨#[]⟩, .slice (some ⟨wr.heap.size, 0, none⟩) 2 2, .int .i64 0] (0, 0) _ rfl (HRW.out _) Tryz.underlying42 rfl Tryz.sizeV) rfl ?_
            exact HENDP.out _ hm HFM.out
        · have hmz : m = 0 := by omega
          subst hmz
          have HFM : Hid (stripN (V.ts L) j = 0) := HZ.out
          go_wp2_with (refine wpList_store_row rfl 42 (.tmp 4) (.tmp 96) rfl (W.heap.size + 1) #[.int .i64 24, .int .u64 0, .string ⟨#[]⟩, .slice (some ⟨wr.heap.size, 0, none⟩) 2 2, .int .i64 0] rfl rfl 42 _ (heap_past HKZ.out _) Tryz.sizeV rfl (by kernel_rfl) ?_; rw [setRow_under hlt1])
          refine bodyPost_ret (v := .agg #[.int .i64 24, .int .u64 0, .string ⟨#[]⟩, .slice (some ⟨wr.heap.size, 0, none⟩) 2 2, .int .i64 0]) (results_cell_row Tryz.results37 _ _ (W.heap.size + 1) 42 #[.int .i64 24, .int .u64 0, .string ⟨#[]⟩, .slice (some ⟨wr.heap.size, 0, none⟩) 2 2, .int .i64 0] (0, 0) _ rfl (HRW.out _) Tryz.underlying42 rfl Tryz.sizeV) rfl ?_
          exact HENDP.out _ hm HFM.out
end Go.Proofs.YtgldcchleoklcaaGreatDoor
