
/- Stages 19, 20: disk.Load of any files. -/
import Derived.Test.YtgkdecjlanbmhaaJXm
import Derived.BigQuiet
namespace Go.Proofs.Ytgkdecjlanbmhaa
open Go.RowKit Go.Maps Go.MuLone
set_option linter.unusedVariables false
set_option linter.unusedSimpArgs false
def zF (f : Lf) : Fi := (f.1, [], f.2.2.1.toNat)
theorem DkS.up {S S' : Nat → Prop} {w : World} {d m : Nat} {x : Dx} {E : List En} (h : DkS S w d m x E) (hS : ∀ k, S k → S' k) : DkS S' w d m x E :=
  ⟨hS _ h.sd, hS _ h.sm, h.blk, h.tab, fun e he => ⟨hS _ (h.ens e he).1, (h.ens e he).2.1, (h.ens e he).2.2.1, fun g hg => hS _ ((h.ens e he).2.2.2.1 g hg), (h.ens e he).2.2.2.2⟩, h.ps, h.apt⟩
set_option maxHeartbeats 2000000 in
theorem hasRoom_gen (S : Nat → Prop) (w : World) (d m : Nat) (x : Dx) (E : List En) (hD : DkS S w d m x E) (h0 : 0 ≤ x.used) (h1 : x.used ≤ x.room) (h2 : x.room ≤ 16777216) (a : Option Addr) (n c : Nat) :
    Calls Try.prog 52 #[.pointer (some ⟨d, 0, none⟩), .slice a n c] w fun e w' => e = .returned (.bool (decide ((n : Int) ≤ x.room - x.used))) ∧ Below w.heap.size w w' := by
  have c3 : w.cell? ⟨d, 3, none⟩ = some (.int .i64 x.room) := hD.cell 3 _ rfl
  have c4 : w.cell? ⟨d, 4, none⟩ = some (.int .i64 x.used) := hD.cell 4 _ rfl
  have hwr : IntKind.i64.wrap (x.room - x.used) = x.room - x.used := by rw [IntKind.wrap_i64]; omega
  obtain ⟨R, hR⟩ : ∃ R, x.room = R := ⟨_, rfl⟩
  obtain ⟨U, hU⟩ : ∃ U, x.used = U := ⟨_, rfl⟩
  rw [hR] at c3 hwr ⊢
  rw [hU] at c4 hwr ⊢
  clear hD h0 h1 h2 hR hU
  go_enter Try.func52, Try.ntmps52
  go_wp2_with fail
  go_region_held (fun W => W.cell? ⟨d, 3, none⟩ = some (.int .i64 R) ∧ W.cell? ⟨d, 4, none⟩ = some (.int .i64 U)) (exact ⟨c3, c4⟩) (fail)
  go_wp2
  go_ret
  exact ⟨by simp [hwr], by first | exact Below.refl _ _ | exact Below.drew (Below.refl _ _)⟩
/-- what disk.Load answers -/
def LdQ (B : Nat) (n : Int) (L : List Lf) (e : Ending) (w' : World) : Prop :=
  (¬ LdA L ∧ e = .returned (.tuple #[.pointer none, .int .i64 1])) ∨ (LdA L ∧ n < (usd (L.map inF) : Int) ∧ e = .returned (.tuple #[.pointer none, .int .i64 190])) ∨ (LdA L ∧ (usd (L.map inF) : Int) ≤ n ∧ ∃ d m E, e = .returned (.tuple #[.pointer (some ⟨d, 0, none⟩), .int .i64 0]) ∧ DkS (fun k => B ≤ k) w' d m (dxl n (L.map inF)) E ∧ (E.map En.f).Perm (L.map inF))
set_option maxHeartbeats 16000000 in
set_option maxRecDepth 100000 in
theorem load_d (w : World) (v : Value) (L : List Lf) (hL : LR w v L) (n : Int) (h0 : 0 ≤ n) (h1 : n ≤ 16777216) (hk : ∀ f ∈ L, f.1.size ≤ 4611686018427387904 ∧ f.2.1.length ≤ 140737488355328) (hn : L.length ≤ 1000000000000) (hu : usd (L.map inF) ≤ 4611686018427387904) :
    Calls Try.prog 16 #[v, .int .i64 n] w fun e w' => LdQ w.heap.size n L e w' ∧ Below w.heap.size w w' := by
  have HL := hide hL
  have HK := hide hk
  have HNW := hide (new_any w n h0 h1)
  have HU := hide hu
  have H01 := hide (And.intro h0 h1)
  obtain ⟨va, vc, rfl⟩ := hL.shp
  clear hL hk hu
  go_enter Try.func16, Try.ntmps16
  go_wp2_with fail
  refine HNW.out.mono ?_
  rintro e w1 ⟨d, rfl, hD1, hb1⟩
  obtain ⟨m, E0, hE0, hD1⟩ := hD1
  obtain rfl : E0 = [] := by simpa using hE0
  have HD1 : Hid (DkS (fun k => w.heap.size ≤ k) w1 d m (dx0 n) []) := hD1.up (fun k h => h.1)
  have HB1 := hide hb1
  clear hD1 hb1 HNW hE0
  go_wp2_with fail
  go_loopw [17] (fun iv wr => ∃ (j : Nat), j ≤ L.length ∧ iv = .int .i64 (j : Int) ∧ Hid (∃ E, DkS (fun k => w.heap.size ≤ k) wr d m (dx0 n) E ∧ (E.map En.f).Perm ((L.take j).map zF)) ∧ Hid (∀ i (hi : i < L.length), i < j → LdG (L.take i) L[i]) ∧ Hid (Below w.heap.size w wr)) (fun iv _ => L.length - (intOf iv).toNat)
  case atStart => exact ⟨0, Nat.zero_le _, rfl, ⟨[], HD1.out, by simp⟩, fun i hi h => absurd h (Nat.not_lt_zero _), HB1.out⟩
  case round =>
    obtain ⟨j, hj, rfl, HW, HG, HB⟩ := hrel
    by_cases hjl : j < L.length
    · obtain ⟨E, hDk, hP⟩ := HW.out
      obtain ⟨g, off, cap, a1, c1, e, hg, r0, r1, r2, he2⟩ := (HL.out.below HB.out).el j hjl
      simp only [Value.slice.injEq] at e
      obtain ⟨rfl, _, rfl⟩ := e
      have hkj := HK.out L[j] (List.getElem_mem hjl)
      have HTJ : Hid ((L.take (j + 1)).map zF = (L.take j).map zF ++ [zF L[j]]) := by
        show _ = _
        rw [List.take_succ_eq_append_getElem hjl, List.map_append]
        rfl
      have hji : (j : Int) < (L.length : Int) := by omega
      have hbad : ∀ f, L[j] = f → ¬ LdG (L.take j) f → ¬ LdA L := fun f e h h2 => h (e ▸ h2 j hjl)
      have HBAD := hide hbad
      obtain ⟨f, hf⟩ : ∃ f, L[j] = f := ⟨_, rfl⟩
      have HF := hide hf
      have hlen : E.length = j := by
        have := hP.length_eq
        rw [List.length_map, List.length_map, List.length_take] at this
        omega
      have HLN := hide hlen
      rw [hf] at r0 r1 r2 he2 hkj HTJ
      obtain ⟨s, l, z, ov⟩ := f
      dsimp only at r0 r1 r2 he2 hkj HTJ
      subst he2
      have HDK := hide (hDk.lts)
      have HPP := hide hP
      obtain ⟨wa, hwa⟩ : ∃ wa, wr.alloc (.cells #[.string s, .slice a1 l.length c1, .int .i64 z] 44) = wa := ⟨_, rfl⟩
      have hba : Below wr.heap.size wr wa := by rw [← hwa]; exact bel1 (Below.refl _ _) (Nat.le_refl _) _
      have hOa : wa.heap[wr.heap.size]? = some (.cells #[.string s, .slice a1 l.length c1, .int .i64 z] 44 (0, 0)) := by rw [← hwa]; exact heap_new _ _
      have hza : wa.heap.size = wr.heap.size + 1 := by rw [← hwa]; simp
      obtain ⟨lu, hlu⟩ : ∃ lu, luV (E.map fun e => (e.f.1, e.p)) s = lu := ⟨_, rfl⟩
      have HLU : Hid (luV (E.map fun e => (e.f.1, e.p)) s = lu) := hlu
      have HSV : Hid (s.size ≤ maxLen → ∀ V : World, Below wa.heap.size wa V → V.cell? ⟨wr.heap.size, 0, none⟩ = some (.string s) ∧ V.cell? ⟨wr.heap.size, 1, none⟩ = some (.slice a1 l.length c1) ∧ V.cell? ⟨wr.heap.size, 2, none⟩ = some (.int .i64 z) ∧ V.cell? ⟨d, 2, none⟩ = some (.map (some m)) ∧ (Instr.lookup 66 (.map (some m)) (.string s) false).run Try.prog V = .ok lu V) := fun hms V hV => by
        have h1 := (hV.block _ (by omega)).trans hOa
        have h2 : DkS (fun k => w.heap.size ≤ k ∧ k < wr.heap.size) V d m (dx0 n) E := HDK.out.keep (fun q hq => (hV.block q (by have := hq.2; omega)).trans (hba.block q hq.2))
        have h3 := look_run h2.tab (k := s) hms
        rw [hlu] at h3
        exact ⟨cellOf h1 0 _ rfl, cellOf h1 1 _ rfl, cellOf h1 2 _ rfl, h2.cell 2 _ rfl, h3⟩
      have HNM := hide (fun V => isName_any s V)
      have HBa := hide hba
      have HOa := hide hOa
      have HZa := hide hza
      have HWa := hide hwa
      have HBR : Hid (w.heap.size ≤ wr.heap.size) := HB.out.size
      have HMS : Hid (s.size ≤ maxLen) := by
        have h3 := hkj.1
        have h4 : maxLen = 9223372036854775807 := rfl
        show _ ≤ _
        omega
      obtain ⟨b0, b1, b2, b3, b4⟩ := HSV.out HMS.out wa (Below.refl _ _)
      clear hDk hP hlen hf hkj hba hOa hza hwa hbad HW hlu
      cases hn : nm s
      · have HX := hide (HBAD.out _ HF.out (fun h => by rw [show nm s = true from h.1] at hn; cases hn))
        rw [hn] at HNM
        clear hn
        go_wp2_with fail
        rw [HWa.out]
        go_quiet ((go_at_call 50; refine Calls.quiet_of_same (HNM.out _)))
        all_goals go_wp2_with fail
        all_goals go_ret2
        all_goals exact ⟨.inl ⟨HX.out, rfl⟩, HB.out.trans ((below_drewN HBa.out _).mono HBR.out)⟩
      · rw [hn] at HNM
        have HN := hide hn
        clear hn
        have hdk : DkS (fun k => w.heap.size ≤ k ∧ k < wr.heap.size) wa d m (dx0 n) E := HDK.out.keep (fun q hq => HBa.out.block q hq.2)
        have hnd : ((E.map fun e => (e.f.1, e.p)).map (·.1)).Nodup := by
          have := hdk.names
          rw [List.map_map]
          exact this
        rcases luV_cases _ s hnd with ⟨hno, hl0⟩ | ⟨p, hin, hl0⟩
        · have hl1 := HLU.out.symm.trans hl0
          subst hl1
          have hno2 : s ∉ E.map (·.f.1) := by
            rw [List.map_map] at hno
            exact hno
          have HNO := hide hno2
          clear hno hl0 hnd hno2
          have b5 : ∀ nq, (Instr.lookup 66 (.map (some m)) (.string s) false).run Try.prog (wa.drewN nq) = .ok (.pointer none) (wa.drewN nq) := fun nq => (HSV.out HMS.out _ (below_drewN (Below.refl _ _) _)).2.2.2.2
          by_cases hz0 : z < 0
          · have HX := hide (HBAD.out _ HF.out (fun h => absurd h.2.2.1 (by show ¬ (0 : Int) ≤ z; omega)))
            have hz2 : decide (z < 0) = true := decide_eq_true hz0
            clear hdk
            go_wp2_with fail
            rw [HWa.out]
            go_quiet ((go_at_call 50; refine Calls.quiet_of_same (HNM.out _)))
            all_goals go_wp2_with fail
            all_goals go_ret2
            all_goals exact ⟨.inl ⟨HX.out, rfl⟩, HB.out.trans ((below_drewN HBa.out _).mono HBR.out)⟩
          · have hz2 : decide (z < 0) = false := decide_eq_false hz0
            by_cases hz1 : (l.length : Int) < z
            · have HX := hide (HBAD.out _ HF.out (fun h => absurd h.2.2.2 (by show ¬ z ≤ (l.length : Int); omega)))
              have hz3 : decide ((l.length : Int) < z) = true := decide_eq_true hz1
              clear hdk
              go_wp2_with fail
              rw [HWa.out]
              go_quiet ((go_at_call 50; refine Calls.quiet_of_same (HNM.out _)))
              all_goals go_wp2_with fail
              all_goals go_ret2
              all_goals exact ⟨.inl ⟨HX.out, rfl⟩, HB.out.trans ((below_drewN HBa.out _).mono HBR.out)⟩
            · have hz3 : decide ((l.length : Int) < z) = false := decide_eq_false hz1
              obtain ⟨zn, hzn⟩ : ∃ zn : Nat, z = (zn : Int) := ⟨z.toNat, by omega⟩
              have HZN := hide hzn
              have HZZ : Hid (0 ≤ z ∧ z ≤ (l.length : Int)) := ⟨by omega, by omega⟩
              have HLY : Hid (∀ V : World, Below wa.heap.size wa V → Calls Try.prog 51 #[.pointer (some ⟨d, 0, none⟩), .string s, .slice none 0 0] V fun e w' => ∃ p v, e = .returned (.pointer (some ⟨p, 0, none⟩)) ∧ DkS (fun k => w.heap.size ≤ k) w' d m (dx0 n) (⟨(s, [], 0), p, v⟩ :: E) ∧ Below w.heap.size wa w' ∧ w'.cell? ⟨wr.heap.size, 0, none⟩ = some (.string s) ∧ w'.cell? ⟨wr.heap.size, 2, none⟩ = some (.int .i64 z) ∧ w'.cell? ⟨p, 1, none⟩ = some (.int .i64 0) ∧ w'.frozen? ⟨p, 1, none⟩ = false ∧ (¬ p = wr.heap.size) ∧ w.heap.size ≤ p) := fun V hV => by
                have h2 : DkS (fun k => w.heap.size ≤ k ∧ k < wr.heap.size) V d m (dx0 n) E := HDK.out.keep (fun q hq => (hV.block q (by have := hq.2; have := HZa.out; omega)).trans (HBa.out.block q hq.2))
                have hz0' : ∀ e ∈ E, e.f.2.1 = [] := fun e he => by
                  have h3 := HPP.out.mem_iff.1 (List.mem_map_of_mem (f := En.f) he)
                  obtain ⟨q, _, e2⟩ := List.mem_map.1 h3
                  have e3 : ([] : List Nat) = e.f.2.1 := congrArg (fun f : Fi => f.2.1) e2
                  exact e3.symm
                have husd : usd (E.map En.f) = 0 := by
                  have hp := usd_perm HPP.out
                  rw [hp]
                  have : ∀ l : List Lf, usd (l.map zF) = 0 := fun l => by
                    induction l with
                    | nil => rfl
                    | cons a l ih => rw [List.map_cons, usd_cons, ih]; rfl
                  exact this _
                have hlv : wr.heap.size < V.heap.size := by have := hV.size; have := HZa.out; omega
                refine (lay_any _ V d m (dx0 n) E h2 (fun q hq => by have := hq.2; omega) s HN.out (.slice none 0 0) [] (Rb.nil V) (by rw [husd]; rfl) (by rw [husd]; decide) (by have := HLN.out; have h4 : maxLen = 9223372036854775807 := rfl; omega)).mono ?_
                rintro e w' ⟨p, rfl, v, h3, h4⟩
                have hnm2 : s ∉ (E.map En.f).map (·.1) := by rw [List.map_map]; exact HNO.out
                rw [dat_none hnm2, wo_self HNO.out] at h3
                have h3' : DkS (Sx (fun k => w.heap.size ≤ k ∧ k < wr.heap.size) V w') w' d m (dx0 n) (⟨(s, [], 0), p, v⟩ :: E) := h3
                have hcb := (h4.block hlv (fun h => Nat.lt_irrefl _ h.2)).trans ((hV.block _ (by have := HZa.out; omega)).trans HOa.out)
                have hen := (h3'.ens _ List.mem_cons_self).2.1
                have hsx := (h3'.ens _ List.mem_cons_self).1
                rw [show (⟨(s, [], 0), p, v⟩ : En).p = p from rfl] at hsx
                refine ⟨p, v, rfl, h3'.up (fun k hk => ?_), (hV.mono (by have := HZa.out; have := HBR.out; omega)).trans (kp_below h4 (fun k hk h => by have := h.1; omega) (by have := HBR.out; omega)), cellOf hcb 0 _ rfl, cellOf hcb 2 _ rfl, cellOf hen 1 _ rfl, frozen_of hen 1, fun e => ?_, ?_⟩
                · rcases hk with h | h
                  · exact h.1
                  · have := HBR.out; omega
                · rw [e] at hsx
                  rcases hsx with h | h
                  · exact Nat.lt_irrefl _ h.2
                  · omega
                · rcases hsx with h | h
                  · exact h.1
                  · have := HBR.out; omega
              clear hzn hdk
              go_wp2_with fail
              rw [HWa.out]
              go_quiet ((go_at_call 50; refine Calls.quiet_of_same (HNM.out _)))
              all_goals go_wp2_with fail
              all_goals go_region_held (fun V => V.cell? ⟨wr.heap.size, 0, none⟩ = some (.string s) ∧ V.cell? ⟨wr.heap.size, 2, none⟩ = some (.int .i64 z)) (first | go_keep | exact ⟨(HSV.out HMS.out _ (below_drewN (Below.refl _ _) _)).1, (HSV.out HMS.out _ (below_drewN (Below.refl _ _) _)).2.2.1⟩ | exact ⟨(HSV.out HMS.out _ (below_drewN (Below.refl _ _) _).drew).1, (HSV.out HMS.out _ (below_drewN (Below.refl _ _) _).drew).2.2.1⟩) ((go_at_call 51; refine Calls.mono (HLY.out _ (by first | exact (below_drewN (Below.refl _ _) _) | exact (below_drewN (Below.refl _ _) _).drew | exact (below_drewN (Below.refl _ _) _).drew.drew)) ?_; rintro e2 w2 ⟨p, v, rfl, hd2, hk2, g0, g2, g1, gf, gn, gp⟩; have gn2 : ¬ wr.heap.size = p := fun e => gn e.symm; have HD2 := hide hd2; have HK2 := hide hk2; clear hd2 hk2))
              rename World => w2
              go_wp2_with fail
              have h5 := HD2.out.safe zn
              rw [← HZN.out] at h5
              have h6 : DkS (fun k => w.heap.size ≤ k) (w2.setCell ⟨p, 1, none⟩ (.int .i64 z)) d m (dx0 n) (⟨(s, [], zn), p, v⟩ :: E) := h5
              refine ⟨⟨j + 1, by omega, by go_num, ⟨_, h6, ?_⟩, fun i hi hij => ?_, (HB.out.trans ((HBa.out.mono HBR.out).trans HK2.out)).setCell (by exact gp) _⟩, by simp [intOf]; omega⟩
              · rw [HTJ.out, List.map_cons]
                refine List.Perm.trans ?_ (List.perm_append_comm (l₁ := [zF (s, l, z, .slice a1 l.length c1)]))
                have e1 : zF (s, l, z, .slice a1 l.length c1) = (s, [], zn) := by
                  show (s, [], z.toNat) = _
                  rw [HZN.out]
                  rfl
                rw [e1]
                exact HPP.out.cons _
              · rcases Nat.lt_or_ge i j with h | h
                · exact HG.out i hi h
                · obtain rfl : i = j := by omega
                  rw [HF.out]
                  refine ⟨HN.out, fun q hq e => HNO.out ?_, HZZ.out⟩
                  have h3 := HPP.out.mem_iff.2 (List.mem_map_of_mem (f := zF) hq)
                  obtain ⟨o, ho, e2⟩ := List.mem_map.1 h3
                  exact List.mem_map.2 ⟨o, ho, (congrArg (·.1) e2).trans e⟩
        · have hl1 := HLU.out.symm.trans hl0
          subst hl1
          have HX := hide (HBAD.out _ HF.out (fun h => by
            obtain ⟨o, ho, e⟩ := List.mem_map.1 hin
            have h3 := HPP.out.mem_iff.1 (List.mem_map_of_mem (f := En.f) ho)
            obtain ⟨q, hq, e2⟩ := List.mem_map.1 h3
            refine h.2.1 q hq ?_
            have e3 : q.1 = o.f.1 := congrArg (·.1) e2
            have e4 : o.f.1 = s := congrArg (·.1) e
            exact e3.trans e4))
          clear hin hl0 hnd hdk
          have b5 : ∀ nq, (Instr.lookup 66 (.map (some m)) (.string s) false).run Try.prog (wa.drewN nq) = .ok (pV p) (wa.drewN nq) := fun nq => (HSV.out HMS.out _ (below_drewN (Below.refl _ _) _)).2.2.2.2
          unfold pV at b4 b5 HSV
          go_wp2_with fail
          rw [HWa.out]
          go_quiet ((go_at_call 50; refine Calls.quiet_of_same (HNM.out _)))
          all_goals go_wp2_with fail
          all_goals go_ret2
          all_goals exact ⟨.inl ⟨HX.out, rfl⟩, HB.out.trans ((below_drewN HBa.out _).mono HBR.out)⟩
    · have HQ : Hid (LdA L) := fun i hi => HG.out i hi (by omega)
      obtain ⟨E1, hDk1, hP1⟩ := HW.out
      rw [List.take_of_length_le (by omega)] at hP1
      have HDK1 := hide hDk1
      have HP1 := hide hP1
      have HBF := hide HB.out
      clear hDk1 hP1 HW HG HB
      go_wp2_with fail
      go_loopw [59] (fun iv w2 => ∃ (j : Nat), j ≤ L.length ∧ iv = .int .i64 (j : Int) ∧ Hid (∃ E, DkS (fun k => w.heap.size ≤ k) w2 d m { dx0 n with used := (usd ((L.take j).map inF) : Int) } E ∧ (E.map En.f).Perm ((L.take j).map inF ++ (L.drop j).map zF)) ∧ Hid ((usd ((L.take j).map inF) : Int) ≤ n) ∧ Hid (Below w.heap.size w w2)) (fun iv _ => L.length - (intOf iv).toNat)
      case atStart => exact ⟨0, Nat.zero_le _, rfl, ⟨E1, HDK1.out, by simpa using HP1.out⟩, by show ((0 : Nat) : Int) ≤ n; have := H01.out.1; omega, HBF.out⟩
      case round =>
        obtain ⟨j, hj, rfl, HW, HUN, HB⟩ := hrel
        by_cases hjl : j < L.length
        · obtain ⟨E, hDk, hP⟩ := HW.out
          obtain ⟨g, off, cap, a1, c1, e, hg, r0, r1, r2, he2⟩ := (HL.out.below HB.out).el j hjl
          simp only [Value.slice.injEq] at e
          obtain ⟨rfl, _, rfl⟩ := e
          have hdj := (HL.out.below HB.out).dat L[j] (List.getElem_mem hjl)
          have hgd := HQ.out j hjl
          have hji : (j : Int) < (L.length : Int) := by omega
          have HTJ : Hid ((L.take (j + 1)).map inF = (L.take j).map inF ++ [inF L[j]]) := by
            show _ = _
            rw [List.take_succ_eq_append_getElem hjl, List.map_append]
            rfl
          have HDJ : Hid ((L.drop j).map zF = zF L[j] :: (L.drop (j + 1)).map zF) := by
            show _ = _
            rw [List.drop_eq_getElem_cons hjl]
            rfl
          have hue : (usd ((L.take j).map inF) : Nat) + L[j].2.1.length ≤ usd (L.map inF) := by
            have h3 := usd_take (L.map inF) (j := j) (by simpa using hjl)
            have h4 := usd_take_le (L.map inF) (j + 1)
            rw [← List.map_take, ← List.map_take] at h3
            rw [← List.map_take] at h4
            have h5 : (L.map inF)[j]'(by simpa using hjl) = inF L[j] := by simp
            rw [h5] at h3
            have h6 : (inF L[j]).2.1 = L[j].2.1 := rfl
            rw [h6] at h3
            omega
          have hus : (usd ((L.take (j + 1)).map inF) : Nat) = usd ((L.take j).map inF) + L[j].2.1.length := by
            have h3 := usd_take (L.map inF) (j := j) (by simpa using hjl)
            rw [← List.map_take, ← List.map_take] at h3
            have h5 : (L.map inF)[j]'(by simpa using hjl) = inF L[j] := by simp
            rw [h5] at h3
            exact h3
          obtain ⟨f, hf⟩ : ∃ f, L[j] = f := ⟨_, rfl⟩
          have HF := hide hf
          have hlen : E.length = L.length := by
            have := hP.length_eq
            rw [List.length_map, List.length_append, List.length_map, List.length_map, List.length_take, List.length_drop] at this
            omega
          rw [hf] at r0 r1 r2 he2 hdj hgd HTJ HDJ hue hus
          obtain ⟨s, l, z, ov⟩ := f
          dsimp only at r0 r1 r2 he2 hdj hgd HTJ HDJ hue hus
          subst he2
          have HLN := hide hlen
          have HDK := hide (hDk.lts)
          have HPP := hide hP
          have HGD := hide hgd
          have HUE := hide hue
          have HUS := hide hus
          obtain ⟨U, hU⟩ : ∃ U, usd ((L.take j).map inF) = U := ⟨_, rfl⟩
          rw [hU] at HDK HUE HUS HUN
          have HUU := hide hU
          have HRB := hide hdj
          obtain ⟨wa, hwa⟩ : ∃ wa, wr.alloc (.cells #[.string s, .slice a1 l.length c1, .int .i64 z] 44) = wa := ⟨_, rfl⟩
          have hba : Below wr.heap.size wr wa := by rw [← hwa]; exact bel1 (Below.refl _ _) (Nat.le_refl _) _
          have hOa : wa.heap[wr.heap.size]? = some (.cells #[.string s, .slice a1 l.length c1, .int .i64 z] 44 (0, 0)) := by rw [← hwa]; exact heap_new _ _
          have hza : wa.heap.size = wr.heap.size + 1 := by rw [← hwa]; simp
          have HBa := hide hba
          have HOa := hide hOa
          have HZa := hide hza
          have HWa := hide hwa
          have HBR : Hid (w.heap.size ≤ wr.heap.size) := HB.out.size
          have HHR := hide (hasRoom_gen _ wa d m _ E (HDK.out.keep (fun q hq => hba.block q hq.2)) (by show (0 : Int) ≤ (U : Int); omega) (by show (U : Int) ≤ n; exact HUN.out) (by show n ≤ 16777216; exact H01.out.2) a1 l.length c1)
          have HRM : Hid (({ dx0 n with used := (U : Int) } : Dx).room - ({ dx0 n with used := (U : Int) } : Dx).used = n - (U : Int)) := rfl
          rw [HRM.out] at HHR
          have q0 : wa.cell? ⟨wr.heap.size, 0, none⟩ = some (.string s) := cellOf hOa 0 _ rfl
          have q1 : wa.cell? ⟨wr.heap.size, 1, none⟩ = some (.slice a1 l.length c1) := cellOf hOa 1 _ rfl
          clear hDk hP hlen hf hdj hgd hue hus hU hba hOa hza hwa HW HRM
          by_cases hroom : (l.length : Int) ≤ n - (U : Int)
          · have hrd : decide ((l.length : Int) ≤ n - (U : Int)) = true := decide_eq_true hroom
            rw [hrd] at HHR
            have HRO := hide hroom
            clear hrd hroom
            go_wp2_with fail
            rw [HWa.out]
            refine HHR.out.mono ?_
            rintro e wh ⟨rfl, hbh⟩
            have hbwh : Below wr.heap.size wr wh := HBa.out.trans (hbh.mono (by have := HZa.out; omega))
            have hOh := (hbh.block wr.heap.size (by have := HZa.out; omega)).trans HOa.out
            have t0 : wh.cell? ⟨wr.heap.size, 0, none⟩ = some (.string s) := cellOf hOh 0 _ rfl
            have t1 : wh.cell? ⟨wr.heap.size, 1, none⟩ = some (.slice a1 l.length c1) := cellOf hOh 1 _ rfl
            have hDh := HDK.out.keep (w' := wh) (fun q hq => hbwh.block q hq.2)
            have hpe : usd (E.map En.f) = U := by
              have h3 := usd_perm HPP.out
              rw [h3]
              have h4 : ∀ (A : List Fi) (l : List Lf), usd (A ++ l.map zF) = usd A := fun A l => by
                induction l with
                | nil => simp
                | cons a l ih =>
                  have e : (A ++ List.map zF (a :: l)).Perm (zF a :: (A ++ l.map zF)) := List.perm_middle
                  rw [usd_perm e, usd_cons, ih]
                  show 0 + _ = _
                  omega
              rw [h4]
              exact HUU.out
            have HLY := hide (lay_any _ wh d m _ E hDh (fun q hq => Nat.lt_of_lt_of_le hq.2 hbwh.size) s HGD.out.1 (.slice a1 l.length c1) l (HRB.out.below hbwh) (by show (U : Int) = _; rw [hpe]) (by have h3 := HRO.out; have h4 := H01.out.2; omega) (by have := HLN.out; have h4 : maxLen = 9223372036854775807 := rfl; omega))
            have HBH := hide hbwh
            clear hbh hbwh hOh hDh hpe HHR q0 q1 r0 r1 r2
            go_wp2_with fail
            refine HLY.out.mono ?_
            rintro e w7 ⟨q, rfl, v7, h7, hk7⟩
            have H7 := hide h7
            have HK7 := hide hk7
            clear h7 hk7 HLY
            go_wp2_with fail
            have hE7 : (E.map En.f).Perm ((s, [], z.toNat) :: ((L.take j).map inF ++ (L.drop (j + 1)).map zF)) := by
              refine HPP.out.trans ?_
              rw [HDJ.out]
              exact List.perm_middle
            have hndE : ((E.map En.f).map (·.1)).Nodup := by rw [List.map_map]; exact HDK.out.names
            have hdat : dat s (E.map En.f) = ([], z.toNat) := dat_mem hndE (hE7.mem_iff.2 List.mem_cons_self) rfl
            have h8 := H7.out
            rw [hdat] at h8
            have e2 : ({ ({ dx0 n with used := (U : Int) } : Dx) with used := ({ dx0 n with used := (U : Int) } : Dx).used + (l.length : Int) } : Dx) = { dx0 n with used := (usd ((L.take (j + 1)).map inF) : Int) } := by
              rw [HUS.out]
              show ({ dx0 n with used := (U : Int) + (l.length : Int) } : Dx) = _
              rw [Int.natCast_add]
            rw [e2] at h8
            have hwoP : ((wo s E).map En.f).Perm ((L.take j).map inF ++ (L.drop (j + 1)).map zF) := by
              have e3 : (wo s E).map En.f = (E.map En.f).filter (fun f => !decide (f.1 = s)) := by
                unfold wo
                rw [List.filter_map]
                rfl
              rw [e3]
              refine (hE7.filter _).trans ?_
              rw [List.filter_cons, if_neg (by simp), List.filter_eq_self.2 (fun f hf => ?_)]
              have hnd2 : (((s, [], z.toNat) :: ((L.take j).map inF ++ (L.drop (j + 1)).map zF)).map (·.1)).Nodup := (hE7.map (·.1)).nodup_iff.1 hndE
              rw [List.map_cons, List.nodup_cons] at hnd2
              have h9 : f.1 ≠ s := fun e => hnd2.1 (by rw [← e]; exact List.mem_map_of_mem (f := (·.1)) hf)
              simpa using h9
            have hkB : Below w.heap.size wh w7 := kp_below HK7.out (fun k hk h => by have := h.1; omega) (Nat.le_trans HBR.out HBH.out.size)
            refine ⟨⟨j + 1, by omega, by go_num, ⟨_, h8.up (fun k hk => ?_), ?_⟩, ?_, HB.out.trans ((HBH.out.mono HBR.out).trans hkB)⟩, by simp [intOf]; omega⟩
            · rcases hk with h | h
              · exact h.1
              · have h3 := HBR.out
                have h4 := HBH.out.size
                exact Nat.le_trans (Nat.le_trans h3 h4) h.1
            · rw [HTJ.out, List.map_cons]
              show List.Perm ((s, [] ++ l, z.toNat) :: _) _
              refine (hwoP.cons _).trans ?_
              rw [List.append_assoc]
              exact List.perm_middle.symm
            · show (_ : Int) ≤ n
              rw [HUS.out, Int.natCast_add]
              have := HRO.out
              omega
          · have hrd : decide ((l.length : Int) ≤ n - (U : Int)) = false := decide_eq_false hroom
            rw [hrd] at HHR
            have HRO := hide hroom
            clear hrd hroom
            go_wp2_with fail
            rw [HWa.out]
            refine HHR.out.mono ?_
            rintro e wh ⟨rfl, hbh⟩
            have HBH := hide hbh
            clear hbh
            go_wp2_with fail
            go_ret2
            refine ⟨.inr (.inl ⟨HQ.out, ?_, rfl⟩), HB.out.trans ((HBa.out.mono HBR.out).trans (HBH.out.mono (by have h3 := HZa.out; have h4 := HBR.out; omega)))⟩
            have h3 := HUE.out
            have h4 := HRO.out
            omega
        · have e1 : L.take j = L := List.take_of_length_le (by omega)
          have e2 : L.drop j = [] := List.drop_eq_nil_of_le (by omega)
          rw [e1] at HW HUN
          rw [e2] at HW
          go_wp2_with fail
          go_ret2
          obtain ⟨E, h3, h4⟩ := HW.out
          refine ⟨.inr (.inr ⟨HQ.out, HUN.out, d, m, E, rfl, h3, by simpa using h4⟩), HB.out⟩
end Go.Proofs.Ytgkdecjlanbmhaa
