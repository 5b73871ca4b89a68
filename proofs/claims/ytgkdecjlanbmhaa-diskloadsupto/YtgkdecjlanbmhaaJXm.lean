
/- Stages 19, 20: the document's disk: Load. -/
import Derived.Test.YtgkdecjlanbmhaaJXl
namespace Go.Proofs.Ytgkdecjlanbmhaa
open Go.RowKit Go.Maps Go.MuLone
set_option linter.unusedVariables false
set_option linter.unusedSimpArgs false
/-- a file that comes in: its name, its bytes, its Safe, its slice -/
abbrev Lf := ByteArray × List Nat × Int × Value
def inF (f : Lf) : Fi := (f.1, f.2.1, f.2.2.1.toNat)
def LdG (L : List Lf) (f : Lf) : Prop := nm f.1 = true ∧ (∀ g ∈ L, g.1 ≠ f.1) ∧ 0 ≤ f.2.2.1 ∧ f.2.2.1 ≤ (f.2.1.length : Int)
def LdA (L : List Lf) : Prop := ∀ i (hi : i < L.length), LdG (L.take i) L[i]
/-- a row of files that came in -/
structure LR (w : World) (v : Value) (L : List Lf) : Prop where
  shp : ∃ a c, v = .slice a L.length c
  el : ∀ i (hi : i < L.length), ∃ g off cap a c, v = .slice (some ⟨g, off, none⟩) L.length cap ∧ g < w.heap.size ∧ w.cell? ⟨g, off + i * 3, none⟩ = some (.string L[i].1) ∧ w.cell? ⟨g, off + i * 3 + 1, none⟩ = some (.slice a L[i].2.1.length c) ∧ w.cell? ⟨g, off + i * 3 + 2, none⟩ = some (.int .i64 L[i].2.2.1) ∧ L[i].2.2.2 = .slice a L[i].2.1.length c
  dat : ∀ f ∈ L, Rb w f.2.2.2 f.2.1
theorem LR.below {w w' : World} {v : Value} {L : List Lf} (h : LR w v L) (hb : Below w.heap.size w w') : LR w' v L :=
  ⟨h.shp, fun i hi => by
    obtain ⟨g, off, cap, a, c, e, hg, r0, r1, r2, e2⟩ := h.el i hi
    exact ⟨g, off, cap, a, c, e, Nat.lt_of_lt_of_le hg hb.size, (hb.cell (p := ⟨g, off + i * 3, none⟩) hg).trans r0, (hb.cell (p := ⟨g, off + i * 3 + 1, none⟩) hg).trans r1, (hb.cell (p := ⟨g, off + i * 3 + 2, none⟩) hg).trans r2, e2⟩, fun f hf => (h.dat f hf).below hb⟩
theorem kp_below {S : Nat → Prop} {B : Nat} {w1 w2 : World} (h : Kp S w1 w2) (hS : ∀ k, k < B → ¬ S k) (hB : B ≤ w1.heap.size) : Below B w1 w2 := ⟨h.1, h.2.1, h.2.2.1, h.size, fun q hq => h.block (Nat.lt_of_lt_of_le hq hB) (hS q hq)⟩
def dxl (n : Int) (F : List Fi) : Dx := { dx0 n with used := (usd F : Int) }
/-- what Load answers -/
def LdP (B : Nat) (n : Int) (L : List Lf) (e : Ending) (w' : World) : Prop :=
  (¬ LdA L ∧ e = .returned (.tuple #[.pointer none, .int .i64 1])) ∨ (LdA L ∧ n < (usd (L.map inF) : Int) ∧ e = .returned (.tuple #[.pointer none, .int .i64 190])) ∨ (LdA L ∧ (usd (L.map inF) : Int) ≤ n ∧ ∃ lv W, e = .returned (.tuple #[.pointer (some ⟨B, 0, none⟩), .int .i64 0]) ∧ RD w' B B lv (dx0 n) W ∧ (W.map (·.1)).Perm (L.map inF))
set_option maxHeartbeats 8000000 in
set_option maxRecDepth 100000 in
theorem load_r (w : World) (v : Value) (L : List Lf) (hL : LR w v L) (n : Int) (h0 : 0 ≤ n) (h1 : n ≤ 16777216) (hk : ∀ f ∈ L, f.1.size ≤ 4611686018427387904 ∧ f.2.1.length ≤ 140737488355328) (hn : L.length ≤ 1000000000000) (hu : usd (L.map inF) ≤ 4611686018427387904) :
    Calls Try.prog 14 #[v, .int .i64 n] w fun e w' => LdP w.heap.size n L e w' ∧ Below w.heap.size w w' := by
  have HL := hide hL
  have HK := hide hk
  have HNW := hide (rnew_any w n h0 h1)
  have HU := hide hu
  obtain ⟨va, vc, rfl⟩ := hL.shp
  clear hL hk hu
  go_enter Try.func14, Try.ntmps14
  go_wp2_with fail
  refine HNW.out.mono ?_
  rintro e w1 ⟨rfl, hr1, hb1⟩
  have HR1 := hide hr1
  have HB1 := hide hb1
  clear hr1 hb1 HNW
  go_wp2_with fail
  go_loopw [7] (fun iv wr => ∃ (j : Nat), j ≤ L.length ∧ iv = .int .i64 (j : Int) ∧ Hid (∃ lv W, RD wr w.heap.size w.heap.size lv (dx0 n) W ∧ (W.map (·.1)).Perm ((L.take j).map inF)) ∧ Hid (∀ i (hi : i < L.length), i < j → LdG (L.take i) L[i]) ∧ Hid (Below w.heap.size w wr)) (fun iv _ => L.length - (intOf iv).toNat)
  case atStart => exact ⟨0, Nat.zero_le _, rfl, ⟨_, [], HR1.out, by simp⟩, fun i hi h => absurd h (Nat.not_lt_zero _), HB1.out⟩
  case round =>
    obtain ⟨j, hj, rfl, HW, HG, HB⟩ := hrel
    by_cases hjl : j < L.length
    · obtain ⟨lv, W, hRD, hP⟩ := HW.out
      obtain ⟨g, off, cap, a1, c1, e, hg, r0, r1, r2, he2⟩ := (HL.out.below HB.out).el j hjl
      simp only [Value.slice.injEq] at e
      obtain ⟨rfl, _, rfl⟩ := e
      have hdj := (HL.out.below HB.out).dat L[j] (List.getElem_mem hjl)
      have hkj := HK.out L[j] (List.getElem_mem hjl)
      have HTJ : Hid ((L.take (j + 1)).map inF = (L.take j).map inF ++ [inF L[j]]) := by
        show _ = _
        rw [List.take_succ_eq_append_getElem hjl, List.map_append]
        rfl
      have hji : (j : Int) < (L.length : Int) := by omega
      have hbad : ∀ f, L[j] = f → ¬ LdG (L.take j) f → ¬ LdA L := fun f e h h2 => h (e ▸ h2 j hjl)
      have HBAD := hide hbad
      obtain ⟨f, hf⟩ : ∃ f, L[j] = f := ⟨_, rfl⟩
      have HF := hide hf
      have HJL := hide hjl
      have hlen : W.length = j := by
        have := hP.length_eq
        rw [List.length_map, List.length_map, List.length_take] at this
        omega
      have HLN := hide hlen
      clear HJL
      rw [hf] at r0 r1 r2 he2 hdj hkj HTJ
      have HJL := hide hjl
      obtain ⟨s, l, z, ov⟩ := f
      dsimp only at r0 r1 r2 he2 hdj hkj HTJ
      subst he2
      have HRD := hide hRD
      have HPP := hide hP
      obtain ⟨wa, hwa⟩ : ∃ wa, wr.alloc (.cells #[.string s, .slice a1 l.length c1, .int .i64 z] 44) = wa := ⟨_, rfl⟩
      have hba : Below wr.heap.size wr wa := by rw [← hwa]; exact bel1 (Below.refl _ _) (Nat.le_refl _) _
      have hOa : wa.heap[wr.heap.size]? = some (.cells #[.string s, .slice a1 l.length c1, .int .i64 z] 44 (0, 0)) := by rw [← hwa]; exact heap_new _ _
      have hza : wa.heap.size = wr.heap.size + 1 := by rw [← hwa]; simp
      have HNM := hide (isN_any s hkj.1)
      have HFD := hide (fun V (hV : Below wr.heap.size wr V) => find_r (hRD.below hV) s)
      have HCP := hide (fun V (hV : Below wr.heap.size wr V) => copied_any (.slice a1 l.length c1) l V (hdj.below hV) hkj.2)
      have HDJ := hide hdj
      have HBa := hide hba
      have HOa := hide hOa
      have HZa := hide hza
      have HWa := hide hwa
      have q0 : wa.cell? ⟨wr.heap.size, 0, none⟩ = some (.string s) := cellOf hOa 0 _ rfl
      have q1 : wa.cell? ⟨wr.heap.size, 1, none⟩ = some (.slice a1 l.length c1) := cellOf hOa 1 _ rfl
      have q2 : wa.cell? ⟨wr.heap.size, 2, none⟩ = some (.int .i64 z) := cellOf hOa 2 _ rfl
      have HBR : Hid (w.heap.size ≤ wr.heap.size) := HB.out.size
      clear hRD hP hlen hf hdj hkj hba hOa hza hwa hbad HW
      cases hn : nm s
      · have HX := hide (HBAD.out _ HF.out (fun h => by rw [show nm s = true from h.1] at hn; cases hn))
        rw [hn] at HNM
        clear hn
        go_wp2_with fail
        rw [HWa.out]
        go_wp2_with fail
        refine (HNM.out _).mono ?_
        rintro e w5 ⟨rfl, hw5⟩
        obtain rfl := hw5.symm
        go_wp2_with fail
        go_ret2
        exact ⟨.inl ⟨HX.out, rfl⟩, HB.out.trans (HBa.out.mono HBR.out)⟩
      · rw [hn] at HNM
        have HN := hide hn
        clear hn
        by_cases hex : ∃ o ∈ W, o.1.1 = s
        · have HX := hide (HBAD.out _ HF.out (fun h => by
            obtain ⟨o, ho, e⟩ := hex
            have h3 := HPP.out.mem_iff.1 (List.mem_map_of_mem (f := (·.1)) ho)
            obtain ⟨q, hq, e2⟩ := List.mem_map.1 h3
            refine h.2.1 q hq ?_
            have e3 : q.1 = o.1.1 := congrArg (·.1) e2
            exact e3.trans e))
          have HFY : Hid (∀ V (hV : Below wr.heap.size wr V), Calls Try.prog 46 #[.pointer (some ⟨w.heap.size, 0, none⟩), .string s] V fun e w' => (∃ i : Nat, e = .returned (.int .i64 (i : Int))) ∧ w' = V) := fun V hV => (HFD.out V hV).mono (fun e w' h => ⟨by
            rcases h.1 with ⟨i, _, _, e⟩ | ⟨h2, _⟩
            · exact ⟨i, e⟩
            · obtain ⟨o, ho, e⟩ := hex; exact absurd e (h2 o ho), h.2⟩)
          clear hex HFD
          go_wp2_with fail
          rw [HWa.out]
          go_wp2_with fail
          refine (HNM.out _).mono ?_
          rintro e w5 ⟨rfl, hw5⟩
          obtain rfl := hw5.symm
          go_wp2_with fail
          refine (HFY.out _ HBa.out).mono ?_
          rintro e w6 ⟨⟨i, rfl⟩, hw6⟩
          obtain rfl := hw6.symm
          have hi0 : ¬ (i : Int) < 0 := by omega
          go_wp2_with fail
          go_ret2
          exact ⟨.inl ⟨HX.out, rfl⟩, HB.out.trans (HBa.out.mono HBR.out)⟩
        · have HFN : Hid (∀ V (hV : Below wr.heap.size wr V), Calls Try.prog 46 #[.pointer (some ⟨w.heap.size, 0, none⟩), .string s] V fun e w' => e = .returned (.int .i64 (-1)) ∧ w' = V) := fun V hV => (HFD.out V hV).mono (fun e w' h => ⟨by
            rcases h.1 with ⟨i, hi, e, _⟩ | ⟨_, h2⟩
            · exact absurd ⟨_, List.getElem_mem hi, e⟩ hex
            · exact h2, h.2⟩)
          have HEX := hide hex
          clear hex HFD
          by_cases hz0 : z < 0
          · have HX := hide (HBAD.out _ HF.out (fun h => absurd h.2.2.1 (by show ¬ (0 : Int) ≤ z; omega)))
            go_wp2_with fail
            rw [HWa.out]
            go_wp2_with fail
            refine (HNM.out _).mono ?_
            rintro e w5 ⟨rfl, hw5⟩
            obtain rfl := hw5.symm
            go_wp2_with fail
            refine (HFN.out _ HBa.out).mono ?_
            rintro e w6 ⟨rfl, hw6⟩
            obtain rfl := hw6.symm
            go_wp2_with fail
            go_ret2
            exact ⟨.inl ⟨HX.out, rfl⟩, HB.out.trans (HBa.out.mono HBR.out)⟩
          · by_cases hz1 : (l.length : Int) < z
            · have HX := hide (HBAD.out _ HF.out (fun h => absurd h.2.2.2 (by show ¬ z ≤ (l.length : Int); omega)))
              go_wp2_with fail
              rw [HWa.out]
              go_wp2_with fail
              refine (HNM.out _).mono ?_
              rintro e w5 ⟨rfl, hw5⟩
              obtain rfl := hw5.symm
              go_wp2_with fail
              refine (HFN.out _ HBa.out).mono ?_
              rintro e w6 ⟨rfl, hw6⟩
              obtain rfl := hw6.symm
              go_wp2_with fail
              go_ret2
              exact ⟨.inl ⟨HX.out, rfl⟩, HB.out.trans (HBa.out.mono HBR.out)⟩
            · obtain ⟨zn, hzn⟩ : ∃ zn : Nat, z = (zn : Int) := ⟨z.toNat, by omega⟩
              have HZN := hide hzn
              have HZZ : Hid (0 ≤ z ∧ z ≤ (l.length : Int)) := ⟨by omega, by omega⟩
              have HCa := hide (HCP.out wa HBa.out)
              clear hzn
              go_wp2_with fail
              rw [HWa.out]
              go_wp2_with fail
              refine (HNM.out _).mono ?_
              rintro e w5 ⟨rfl, hw5⟩
              obtain rfl := hw5.symm
              go_wp2_with fail
              refine (HFN.out _ HBa.out).mono ?_
              rintro e w6 ⟨rfl, hw6⟩
              obtain rfl := hw6.symm
              go_wp2_with fail
              refine HCa.out.mono ?_
              rintro e w5 ⟨v5, rfl, ho5, hb5⟩
              obtain ⟨a5, c5, rfl, _⟩ := ho5.slice
              have hO5 := (hb5.block wr.heap.size (by rw [HZa.out]; exact Nat.lt_succ_self _)).trans HOa.out
              have p0 : w5.cell? ⟨wr.heap.size, 0, none⟩ = some (.string s) := cellOf hO5 0 _ rfl
              have p2 : w5.cell? ⟨wr.heap.size, 2, none⟩ = some (.int .i64 z) := cellOf hO5 2 _ rfl
              have p3 := cellOf hO5 1 _ rfl
              have p1 := frozen_of hO5 1
              have HB6 : Hid (Below wr.heap.size wr (w5.setCell ⟨wr.heap.size, 1, none⟩ (.slice a5 l.length c5))) := (HBa.out.trans (hb5.mono (by have := HZa.out; omega))).setCell (Nat.le_refl _) _
              have HO6 : Hid (Ob wr.heap.size (w5.setCell ⟨wr.heap.size, 1, none⟩ (.slice a5 l.length c5)) (.slice a5 l.length c5) l) := (ho5.mono (by have := HZa.out; omega)).at_same (fun q e => blk_set_other _ _ _ _ (fun e2 => by
                have h3 := (ho5.lt q e).1
                have h4 := HZa.out
                have h5 : q = wr.heap.size := e2
                omega))
              have HPT := hide (put_r (HRD.out.below HB6.out) (by have := HLN.out; omega) (Nat.le_trans HBR.out HB6.out.size) s a5 l c5 zn (DB.of (HO6.out.mono HBR.out)) (fun q e e2 => by
                have h3 := (HO6.out.lt q e).1
                have h4 := HRD.out.lt
                omega) (fun o ho e => HEX.out ⟨o, ho, e⟩))
              clear hO5 ho5 hb5 HCP HCa r0 r1 r2
              rw [← HZN.out] at HPT
              go_wp2_with fail
              refine HPT.out.mono ?_
              rintro e w7 ⟨rfl, lv7, hr7, hk7, hl7⟩
              have HR7 := hide hr7
              have HK7 := hide hk7
              clear hr7 hk7 hl7 HPT
              go_wp2_with fail
              refine ⟨⟨j + 1, by omega, by go_num, ⟨lv7, _, HR7.out, ?_⟩, fun i hi hij => ?_, HB.out.trans ((HB6.out.mono HBR.out).trans (kp_below HK7.out (fun k hk e => by omega) (Nat.le_trans HBR.out HB6.out.size)))⟩, by simp [intOf]; omega⟩
              · rw [HTJ.out]
                refine ((insL_perm _ _).map (·.1)).trans ?_
                refine List.Perm.trans ?_ (List.perm_append_comm (l₁ := [inF (s, l, z, .slice a1 l.length c1)]))
                have e1 : inF (s, l, z, .slice a1 l.length c1) = (s, l, zn) := by
                  show (s, l, z.toNat) = _
                  rw [HZN.out]
                  rfl
                rw [e1]
                exact HPP.out.cons _
              · rcases Nat.lt_or_ge i j with h | h
                · exact HG.out i hi h
                · obtain rfl : i = j := by omega
                  rw [HF.out]
                  refine ⟨HN.out, fun q hq e => HEX.out ?_, HZZ.out⟩
                  have h3 := HPP.out.mem_iff.2 (List.mem_map_of_mem (f := inF) hq)
                  obtain ⟨o, ho, e2⟩ := List.mem_map.1 h3
                  exact ⟨o, ho, (congrArg (·.1) e2).trans e⟩
    · have HQ : Hid (LdA L) := fun i hi => HG.out i hi (by omega)
      obtain ⟨lv, W, hRD, hP⟩ := HW.out
      rw [List.take_of_length_le (by omega)] at hP
      have HP := hide hP
      have HRD := hide hRD
      have hu2 : usd (W.map (·.1)) = usd (L.map inF) := usd_perm hP
      have HUS := hide (used_r hRD (by rw [hu2]; exact HU.out))
      rw [hu2] at HUS
      obtain ⟨U, hU⟩ : ∃ U, usd (L.map inF) = U := ⟨_, rfl⟩
      have HUU := hide hU
      rw [hU] at HUS
      clear hRD hP hu2 hU
      by_cases hgt : n < (U : Int)
      · go_wp2_with fail
        refine HUS.out.mono ?_
        rintro e w6 ⟨rfl, hw6⟩
        obtain rfl := hw6.symm
        go_wp2_with fail
        go_ret2
        exact ⟨.inr (.inl ⟨HQ.out, by rw [HUU.out]; exact hgt, rfl⟩), HB.out⟩
      · go_wp2_with fail
        refine HUS.out.mono ?_
        rintro e w6 ⟨rfl, hw6⟩
        obtain rfl := hw6.symm
        go_wp2_with fail
        go_ret2
        exact ⟨.inr (.inr ⟨HQ.out, by rw [HUU.out]; omega, lv, W, rfl, HRD.out, HP.out⟩), HB.out⟩
end Go.Proofs.Ytgkdecjlanbmhaa
