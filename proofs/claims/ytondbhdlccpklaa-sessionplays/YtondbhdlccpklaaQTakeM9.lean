import Derived.Test.YtondbhdlccpklaaQOverM9
import Derived.Deep.RegionHeld

/- Stage 13: the book's take. -/
namespace Go.Proofs.Ytondbhdlccpklaa
open Go.RowKit Go.Maps
set_option linter.unusedVariables false
set_option linter.unusedSimpArgs false

theorem Try.infoLp : (Try.prog.info? 72).map (fun i => (i.zero, i.size, i.bytes)) = some (some (.slice none 0 0), 1, 24) := by kernel_rfl
section
variable {w w' w1 : World} {kb N : Nat} {S T : List Value} {vl vw v u : Value} {ps : List Pd}
theorem Bk.facts (h : Bk w kb N S T vl vw) : w.cell? ⟨kb, 0, none⟩ = some (.int .i64 (N : Int)) ∧ w.cell? ⟨kb, 1, none⟩ = some vl ∧ w.cell? ⟨kb, 2, none⟩ = some vw ∧ kb < w.heap.size := by
  have := h.b
  exact ⟨cellOf h.b 0 _ rfl, cellOf h.b 1 _ rfl, cellOf h.b 2 _ rfl, (Array.getElem?_eq_some_iff.1 h.b).1⟩
theorem Bk.frozen (h : Bk w kb N S T vl vw) (j : Nat) : w.frozen? ⟨kb, j, none⟩ = false := by
  simp [World.frozen?, h.b]
/-- one slice, put behind: its cell -/
theorem lp_one {v : Value} (h : ∃ a n c, v = .slice a n c) : ∀ u ∈ [v], u.oneCell' = true := by
  obtain ⟨a, n, c, rfl⟩ := h
  intro u hu
  rw [List.mem_singleton] at hu
  subst hu
  rfl
end
set_option maxRecDepth 100000 in
set_option maxHeartbeats 4000000 in
theorem take_any (kb N : Nat) (D : Nat → Prop) (v : Value) (ps : List Pd) (w : World) (hB : Bok w kb N D) (ho : OwnP w (kb + 1) v ps) (hd : ∀ k, v.ownBlock = some k → ¬ D k) (hl : ps.length ≤ 4294967296) (hN : N ≤ 2000000000000) :
    Calls Try.prog 42 #[.pointer (some ⟨kb, 0, none⟩), v] w fun e w' => e = .returned (.tuple #[]) ∧ ∃ D', Bok w' kb (N + 1) D' ∧ Kp (fun k => D k ∨ v.ownBlock = some k) w w' ∧ ∀ k, D' k → D k ∨ v.ownBlock = some k ∨ w.heap.size ≤ k := by
  obtain ⟨S, T, vl, vw, hb, hT, hS, hD, hL⟩ := hB
  obtain ⟨i0, hi, hz0, hz1, hz2⟩ := info_parts Try.infoPd
  obtain ⟨i1, hy, hy0, hy1, hy2⟩ := info_parts Try.infoLp
  obtain ⟨W, hW⟩ : ∃ W, w.setCell ⟨kb, 0, none⟩ (.int .i64 ((N : Int) + 1)) = W := ⟨_, rfl⟩
  have hb1 : Bk W kb (N + 1) S T vl vw := by
    have := hb.setN (N + 1)
    rw [← hW]
    exact_mod_cast this
  obtain ⟨q0, q1, q2, q3⟩ := hb.facts
  have fr := hb.frozen 0
  have hkD : D kb := hD kb (.inl rfl)
  have hkW : Kp D w W := hW ▸ (Kp.refl D w).setCell hkD _
  have hoW : OwnP W (kb + 1) v ps := own_at ho fun k e => hkW.block (World.ownsRow.lt ho k e).2 (hd k e)
  have HW := hide hW
  have HB := hide hb1
  have HK := hide hkW
  have HO := hide hoW
  have HD := hide hD
  have HL := hide hL
  have Hd := hide hd
  have hsz : W.heap.size = w.heap.size := by rw [← hW]; simp
  obtain ⟨r0, r1, r2, r3⟩ := hb1.facts
  have r0' : W.cell? ⟨kb, 0, none⟩ = some (.int .i64 ((N : Int) + 1)) := by exact_mod_cast r0
  have fr1 := hb1.frozen 1
  have fr2 := hb1.frozen 2
  have hNb : (N : Int) ≤ 2000000000000 := by omega
  have HTl := hide hT
  clear hT
  have r3' := hide r3
  clear hb hb1 hD hL hd hkW hoW ho hW r0 hkD
  by_cases hpar : (N + 1) % 2 = 1
  · have HV := hide (over_any (kb + 1) ps.length v (flatP ps) W HO.out (by omega) hl)
    have hp' : ((N : Int) + 1) % 2 = 1 := by omega
    clear hpar
    go_enter Try.func42, Try.ntmps42
    go_wp2_with fail
    rw [HW.out]
    refine HV.out.mono ?_
    rintro e1 w1 ⟨rfl, hk1⟩
    go_wp2
    first | go_end0 | refine bodyPost_ret (results_none rfl _ _ _) rfl ?_
    refine ⟨rfl, D, ⟨S, T, vl, vw, HB.out.at fun k e => hk1.block (HB.out.low e).1 (fun e' => Hd.out k e' (HD.out k e)), HTl.out, by omega, HD.out, fun k e => Nat.lt_of_lt_of_le (HL.out k e) (by have := hk1.size; omega)⟩, (HK.out.mono fun k e => .inl e).trans (hk1.mono fun k e => .inr e), fun k e => .inl e⟩
  · have hp' : ¬ ((N : Int) + 1) % 2 = 1 := by omega
    have hpn : 2 * (S.length + 1) ≤ N + 1 := by omega
    obtain ⟨a, c, hv, hrd, hgb⟩ := HO.out.rd
    obtain ⟨n, hn⟩ : ∃ n, n = ps.length := ⟨_, rfl⟩
    have HRd := hide hrd
    have HN := hide hn
    rw [← hn] at hv hl
    have HGb := hide hgb
    have HV := hide hv
    subst hv
    clear hpar hn hrd hgb
    go_enter Try.func42, Try.ntmps42
    go_wp2
    rw [HW.out]
    go_loopw [4, 5] (fun u i wr => ∃ j : Nat, i = .int .i64 j ∧ j ≤ n ∧ OwnP wr W.heap.size u (ps.take j) ∧ Below W.heap.size W wr) (fun _ i _ => n - (intOf i).toNat)
    case atStart => exact ⟨0, rfl, Nat.zero_le _, ⟨rfl, .inl ⟨rfl, rfl⟩⟩, Below.refl _ _⟩
    case round =>
      obtain ⟨j, rfl, hj, hu, hbl⟩ := hrel
      have HU := hide hu
      have HBl := hide hbl
      have hsw := hbl.size
      have hjb : (j : Int) ≤ 4294967296 := by omega
      by_cases hjn : j < n
      · have hjp : j < ps.length := by have := HN.out; omega
        obtain ⟨g1, e1, p1, p2, p3, p4⟩ := HRd.out j hjp
        subst e1
        rw [← hbl.cell (p := ⟨g1, j * 3, none⟩) p1] at p2
        rw [← hbl.cell (p := ⟨g1, j * 3 + 1, none⟩) p1] at p3
        rw [← hbl.cell (p := ⟨g1, j * 3 + 2, none⟩) p1] at p4
        have p1' : g1 < wr.heap.size := by omega
        obtain ⟨p, hp⟩ : ∃ p, p = ps[j] := ⟨_, rfl⟩
        have HS : Hid (ps.take (j + 1) = ps.take j ++ [p]) := by rw [hp]; exact take_snoc hjp
        rw [← hp] at p2 p3 p4
        have hlen : Hid ((ps.take j).length ≤ 4294967296) := by
          show _ ≤ _
          rw [List.length_take]
          omega
        clear hu hbl hp p1
        go_wp2_with (at_builtin; refine wpList_append_own_at _ rfl _ _ 72 rfl W.heap.size 75 i0 (pdV pd0) 3 32 Try.underlying72 hi hz0 hz1 hz2 rfl (by decide) _ _ _ rfl (HU.out.alloc _) ⟨wr.heap.size, 0, none⟩ 1 1 (pdL p) rfl rfl (cell_pd_new _ _ _) (pd_one p) (by have := hlen.out; unfold maxLen; omega) (by have := hlen.out; omega) (by simp; omega) ?_; intro v' w3 hown' hgrow hnil hloc)
        go_roundw
        case rel =>
          refine ⟨j + 1, by go_num, by omega, ?_, ?_⟩
          · rw [HS.out]
            unfold OwnP
            rw [flatP_snoc]
            simpa using hown'
          · exact (bel1 HBl.out (by omega) _).grown hgrow (by simp; omega) (fun k hk => (HU.out.lt k hk).1)
        case measure => simp [intOf]; omega
      · obtain rfl : j = n := by omega
        rw [List.take_of_length_le (by have := HN.out; omega)] at HU
        obtain ⟨x0, y0, rfl, _⟩ := own_some HU.out
        have hBr : Bk wr kb (N + 1) S T vl vw := HB.out.at fun k e => HBl.out.block k (HB.out.low e).1
        have hOr : OwnP wr (kb + 1) (.slice a j c) ps := own_at HO.out fun k e => HBl.out.block k (World.ownsRow.lt HO.out k e).2
        have hUr : OwnP wr (kb + 1) (Value.slice x0 ps.length y0) ps := own_lower HU.out (by omega)
        have HBr := hide hBr
        have HOr := hide hOr
        have HUr := hide hUr
        obtain ⟨t0, t1, t2, t3⟩ := hBr.facts
        have hdv : Hid (∀ k, (Value.slice a j c).ownBlock = some k → ¬ BkB kb S T vl vw k) := fun k e e' => Hd.out k e (HD.out k e')
        have hdu : Hid (∀ k, (Value.slice x0 ps.length y0).ownBlock = some k → W.heap.size ≤ k ∧ k < wr.heap.size) := fun k e => World.ownsRow.lt HU.out k e
        have hlS : Hid (S.length ≤ 1000000000001) := by show _ ≤ _; omega
        clear hu hbl hBr hOr hUr t0 t2 r0' r1 r2 r3 fr1 fr2 q0 q1 q2 q3 fr
        go_wp2_with (at_builtin; refine wpList_append_own_at _ rfl _ _ 52 rfl (kb + 1) 72 i1 (.slice none 0 0) 1 24 Try.underlying52 hy hy0 hy1 hy2 rfl (by decide) vl S.length S rfl (HBr.out.ol.alloc _) ⟨wr.heap.size, 0, none⟩ 1 1 [.slice a j c] rfl rfl (cell_one_new _ _ _) (lp_one ⟨_, _, _, rfl⟩) (by have := hlS.out; unfold maxLen; omega) (by have := hlS.out; omega) (by simp; omega) ?_; intro v1 w3 ho3 hg3 _ hat3; refine Shut.out ?_)
        obtain ⟨x1, y1, rfl, _⟩ := own_some ho3
        have hs1 : (wr.alloc (.cells #[Value.slice a j c] 72)).heap.size = wr.heap.size + 1 := by simp
        have hold : ∀ k, k < wr.heap.size → vl.ownBlock ≠ some k → w3.heap[k]? = wr.heap[k]? := fun k hk hne => (hg3.block k (by omega) (fun e => hne e.symm)).trans ((bel1 (Below.refl wr.heap.size wr) (Nat.le_refl _) _).block k hk)
        have hkb3 := hold kb t3 (fun e => by have := (HBr.out.ol.lt kb e).1; omega)
        have s1 : w3.cell? ⟨kb, 1, none⟩ = some vl := (World.cell?_of_block (a := ⟨kb, 1, none⟩) hkb3).trans t1
        have s2 : w3.cell? ⟨kb, 2, none⟩ = some vw := (World.cell?_of_block (a := ⟨kb, 2, none⟩) hkb3).trans HBr.out.facts.2.2.1
        have s1f : w3.frozen? ⟨kb, 1, none⟩ = false := (World.frozen?_of_block (a := ⟨kb, 1, none⟩) hkb3).trans (HBr.out.frozen 1)
        have s3 : kb < w3.heap.size := by have := hg3.size; omega
        have hs3 : wr.heap.size + 1 ≤ w3.heap.size := by have := hg3.size; omega
        have hBA := HBr.out.pushL HTl.out HOr.out (by have := HN.out; omega) hdv.out ho3 hg3 hat3
        obtain ⟨WA, hWA⟩ : ∃ WA, w3.setCell ⟨kb, 1, none⟩ (Value.slice x1 (S.length + 1) y1) = WA := ⟨_, rfl⟩
        rw [hWA] at hBA
        have hsA : WA.heap.size = w3.heap.size := by rw [← hWA]; simp
        have holdA : ∀ k, k < wr.heap.size → vl.ownBlock ≠ some k → k ≠ kb → WA.heap[k]? = wr.heap[k]? := fun k hk hne hkk => by
          rw [← hWA]
          exact (blk_set_other _ _ _ _ hkk).trans (hold k hk hne)
        have hkA : Kp D w WA := by
          rw [← hWA]
          exact (((HK.out.below HBl.out).alloc _).grown hg3 fun k e => .inl (HD.out k (.inr (.inl e)))).setCell (HD.out kb (.inl rfl)) _
        have hvA : OwnP WA (kb + 1) (.slice a j c) ps := own_at HOr.out fun k e => holdA k (World.ownsRow.lt HOr.out k e).2 (fun e' => hdv.out k e (.inr (.inl e'))) (by have := (World.ownsRow.lt HOr.out k e).1; omega)
        have huA : OwnP WA (kb + 1) (Value.slice x0 ps.length y0) ps := own_at HUr.out fun k e => holdA k (hdu.out k e).2 (fun e' => by have := (hdu.out k e).1; have := (HB.out.ol.lt k e').2; omega) (by have := (hdu.out k e).1; have := r3'.out; omega)
        have hduA : ∀ k, (Value.slice x0 ps.length y0).ownBlock = some k → ¬ BkB kb (S ++ [Value.slice a j c]) T (Value.slice x1 (S.length + 1) y1) vw k := fun k e e' => by
          have h1 := hdu.out k e
          rcases e' with rfl | e' | e' | ⟨x, hx, e'⟩
          · have := r3'.out
            omega
          · rcases hat3 with h3 | h3
            · rw [h3] at e'
              have := (HB.out.ol.lt k e').2
              omega
            · rw [h3] at e'
              cases e'
              omega
          · have := (HB.out.ow.lt k e').2
            omega
          · have hx' : (x ∈ S ∨ x ∈ T) ∨ x = .slice a j c := by
              rcases hx with hx | hx
              · rcases List.mem_append.1 hx with hx | hx
                · exact .inl (.inl hx)
                · exact .inr (List.mem_singleton.1 hx)
              · exact .inl (.inr hx)
            rcases hx' with hx' | rfl
            · have := (HB.out.low (.inr (.inr (.inr ⟨x, hx', e'⟩)))).1
              omega
            · have := (World.ownsRow.lt HO.out k e').2
              omega
        have hD1 : Hid (∀ k, BkB kb (S ++ [Value.slice a j c]) T (Value.slice x1 (S.length + 1) y1) vw k → D k ∨ (Value.slice a j c).ownBlock = some k ∨ w.heap.size ≤ k) := fun k e => by
          rcases e with rfl | e | e | ⟨x, hx, e⟩
          · exact .inl (HD.out k (.inl rfl))
          · rcases hat3 with h3 | h3
            · rw [h3] at e
              exact .inl (HD.out k (.inr (.inl e)))
            · rw [h3] at e
              cases e
              exact .inr (.inr (by omega))
          · exact .inl (HD.out k (.inr (.inr (.inl e))))
          · rcases hx with hx | hx
            · rcases List.mem_append.1 hx with hx | hx
              · exact .inl (HD.out k (.inr (.inr (.inr ⟨x, .inl hx, e⟩))))
              · rw [List.mem_singleton] at hx
                subst hx
                exact .inr (.inl e)
            · exact .inl (HD.out k (.inr (.inr (.inr ⟨x, .inr hx, e⟩))))
        have HWA := hide hWA
        have HBA := hide hBA
        have HKA := hide hkA
        have HVA := hide hvA
        have HUA := hide huA
        have HDA := hide hduA
        have ho3' := hide ho3
        clear hWA hBA hkA hvA huA hduA hold holdA hg3 hat3 ho3 hs1 t1
        unfold Shut
        go_wp2_with (at_builtin; rw [HWA.out]; refine wpList_append_own_at _ rfl _ _ 52 rfl (kb + 1) 72 i1 (.slice none 0 0) 1 24 Try.underlying52 hy hy0 hy1 hy2 rfl (by decide) vw T.length T rfl (HBA.out.ow.alloc _) ⟨w3.heap.size, 0, none⟩ 1 1 [(Value.slice x0 ps.length y0)] rfl rfl (by rw [← hsA]; exact cell_one_new _ _ _) (lp_one (by obtain ⟨x, y, e, _⟩ := own_some HUA.out; exact ⟨x, _, y, e⟩)) (by have := hlS.out; have := HTl.out; unfold maxLen; omega) (by have := hlS.out; have := HTl.out; omega) (by simp; omega) ?_; intro v2 w4 ho4 hg4 _ hat4; refine Shut.out ?_)
        obtain ⟨x2, y2, rfl, _⟩ := own_some ho4
        have hs4 : (WA.alloc (.cells #[(Value.slice x0 ps.length y0)] 72)).heap.size = WA.heap.size + 1 := by simp
        have hBB := HBA.out.pushW (fun i x hi hx => by
          have e : x = .slice a j c := by
            rw [hi, HTl.out, List.getElem?_append_right (Nat.le_refl _), Nat.sub_self] at hx
            simpa using hx.symm
          subst e
          exact ⟨ps, HVA.out, HUA.out, by have := HN.out; omega⟩) HUA.out (by have := HN.out; omega) HDA.out ho4 hg4 hat4
        have hkB : Kp D w (w4.setCell ⟨kb, 2, none⟩ (Value.slice x2 (T.length + 1) y2)) := ((HKA.out.alloc _).grown hg4 fun k e => .inl (HD.out k (.inr (.inr (.inl e))))).setCell (HD.out kb (.inl rfl)) _
        have hold4 : ∀ k, k < WA.heap.size → vw.ownBlock ≠ some k → w4.heap[k]? = WA.heap[k]? := fun k hk hne => (hg4.block k (by omega) (fun e => hne e.symm)).trans ((bel1 (Below.refl WA.heap.size WA) (Nat.le_refl _) _).block k hk)
        have hkb4 := hold4 kb (by omega) (fun e => by have := (HBA.out.ow.lt kb e).1; omega)
        have z1 : w4.cell? ⟨kb, 2, none⟩ = some vw := (World.cell?_of_block (a := ⟨kb, 2, none⟩) hkb4).trans HBA.out.facts.2.2.1
        have z1f : w4.frozen? ⟨kb, 2, none⟩ = false := (World.frozen?_of_block (a := ⟨kb, 2, none⟩) hkb4).trans (HBA.out.frozen 2)
        have z3 : kb < w4.heap.size := by have := hg4.size; omega
        have HBB := hide hBB
        have HKB := hide hkB
        have hfin : Hid (∀ k, BkB kb (S ++ [Value.slice a j c]) (T ++ [(Value.slice x0 ps.length y0)]) (Value.slice x1 (S.length + 1) y1) (Value.slice x2 (T.length + 1) y2) k → D k ∨ (Value.slice a j c).ownBlock = some k ∨ w.heap.size ≤ k) := fun k e => by
          rcases e with rfl | e | e | ⟨x, hx, e⟩
          · exact hD1.out k (.inl rfl)
          · exact hD1.out k (.inr (.inl e))
          · rcases hat4 with h4 | h4
            · rw [h4] at e
              exact hD1.out k (.inr (.inr (.inl e)))
            · rw [h4] at e
              cases e
              exact .inr (.inr (by omega))
          · rcases hx with hx | hx
            · exact hD1.out k (.inr (.inr (.inr ⟨x, .inl hx, e⟩)))
            · rcases List.mem_append.1 hx with hx | hx
              · exact hD1.out k (.inr (.inr (.inr ⟨x, .inr hx, e⟩)))
              · rw [List.mem_singleton] at hx
                subst hx
                have := (hdu.out k e).1
                exact .inr (.inr (by omega))
        clear hBB hkB hold4 hg4 hat4 ho4 hs4 hD1
        unfold Shut
        go_wp2
        first | go_end0 | refine bodyPost_ret (results_none rfl _ _ _) rfl ?_
        exact ⟨rfl, _, ⟨S ++ [Value.slice a j c], T ++ [(Value.slice x0 ps.length y0)], (Value.slice x1 (S.length + 1) y1), (Value.slice x2 (T.length + 1) y2), HBB.out, by rw [List.length_append, List.length_append, HTl.out]; rfl, by rw [List.length_append]; simp; omega, fun k e => e, fun k e => (HBB.out.low e).1⟩, HKB.out.mono fun k e => .inl e, hfin.out⟩
end Go.Proofs.Ytondbhdlccpklaa
