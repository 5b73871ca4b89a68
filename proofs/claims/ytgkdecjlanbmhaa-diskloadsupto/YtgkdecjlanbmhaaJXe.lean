
/- Stages 19, 20: the document's disk: fall. -/
import Derived.Test.YtgkdecjlanbmhaaJXd
import Derived.Deep.DeepCutAuto
import Derived.BigRegion
namespace Go.Proofs.Ytgkdecjlanbmhaa
open Go.RowKit Go.Maps Go.MuLone
set_option linter.unusedVariables false
set_option linter.unusedSimpArgs false
theorem wy_froz {w : World} {B g off n cap : Nat} {W : List Fo} (h : Wy FK w B (.slice (some ⟨g, off, none⟩) n cap) W) (o : Nat) : w.frozen? ⟨g, o, none⟩ = false := by
  rcases h with ⟨e, _⟩ | ⟨g', off', cap', cur, e, h1, h2, h3, h4, h5, h6⟩
  · simp at e
  · simp only [Value.slice.injEq, Option.some.injEq, Addr.mk.injEq, and_true] at e
    obtain ⟨⟨rfl, rfl⟩, rfl, rfl⟩ := e
    exact frozen_of h4 o
/-- the disk's blocks that its own calls write -/
def Wr (r : Nat) (lv : Value) (k : Nat) : Prop := k = r ∨ lv.ownBlock = some k
theorem rd_take {w : World} {a : Option Addr} {n : Nat} {l : List Nat} (h : Rd w a n l) {m : Nat} (hm : m ≤ n) : Rd w a m (l.take m) := by
  obtain ⟨h1, h2, h3⟩ := h
  refine ⟨by simp; omega, fun c hc => h2 c (List.mem_of_mem_take hc), fun h0 => ?_⟩
  obtain ⟨b, off, ha, hlt, hc⟩ := h3 (by omega)
  refine ⟨b, off, ha, hlt, fun j hj => ?_⟩
  rw [hc j (by omega)]
  simp [List.getD_eq_getElem?_getD, hj]
theorem Rb.front {w : World} {a : Option Addr} {c m : Nat} {l : List Nat} (h : Rb w (.slice a l.length c) l) (hm : m ≤ l.length) : Rb w (.slice a m m) (l.take m) := by
  obtain ⟨a', c', e, h1, h2, h3⟩ := h
  simp only [Value.slice.injEq, true_and] at e
  obtain ⟨rfl, rfl⟩ := e
  have hl : (l.take m).length = m := by rw [List.length_take]; omega
  refine ⟨a, m, by rw [hl], fun h0 => ?_, by omega, ?_⟩
  · have := h1 h0
    omega
  · rw [hl]
    exact rd_take h3 hm
section
variable {w w' : World} {B r : Nat} {lv : Value} {x : Dx} {W : List Fo}
/-- down, and armed no more -/
theorem RD.fallen (h : RD w B r lv x W) (u : Int) : RD ((w.setCell ⟨r, 2, none⟩ (.bool true)).setCell ⟨r, 3, none⟩ (.bool false)) B r lv { x with down := true, left := -1, used := u } W := by
  obtain ⟨ac, ha, hb⟩ := h.blk
  have hb2 : (w.setCell ⟨r, 2, none⟩ (.bool true)).heap[r]? = some (.cells (rxA lv { x with down := true } ac) 79 (0, 0)) := by rw [blk_set hb]; rfl
  have h2 : RD (w.setCell ⟨r, 2, none⟩ (.bool true)) B r lv { x with down := true } W := h.put hb 2 (.bool true) { x with down := true } ac ha rfl
  exact h2.put hb2 3 (.bool false) { x with down := true, left := -1, used := u } ac (fun h => absurd rfl h) rfl
set_option maxHeartbeats 4000000 in
set_option maxRecDepth 100000 in
theorem fall_r (h : RD w B r lv x W) (hs : ∀ o ∈ W, o.1.2.2 ≤ o.1.2.1.length ∧ o.1.2.1.length ≤ 4611686018427387904) (hn : W.length ≤ 2000000000000) (keep : Int) (hk : -9223372036854775808 ≤ keep ∧ keep < 9223372036854775808) (u : Int) :
    Calls Try.prog 66 #[.pointer (some ⟨r, 0, none⟩), .int .i64 keep] w fun e w' => e = .returned (.tuple #[]) ∧ ∃ W', RD w' B r lv { x with down := true, left := -1, used := u } W' ∧ W'.map (·.1) = (W.map (·.1)).map (fl keep) ∧ Kp (Wr r lv) w w' := by
  have HH := hide h
  have HS := hide hs
  obtain ⟨ac, _, c0, _⟩ := h.cells
  obtain ⟨la, lc, rfl⟩ := h.row.shape
  have HK := hide hk
  clear h hs c0 hk
  go_enter Try.func66, Try.ntmps66
  go_wp2
  go_loopw [4] (fun iv wr => ∃ (j : Nat) (V : List Fo), j ≤ W.length ∧ iv = .int .i64 (j : Int) ∧ Hid (RD wr B r (.slice la W.length lc) x V ∧ V.length = W.length ∧ ∀ i (hi : i < W.length), (V.map (·.1))[i]? = some (if i < j then fl keep W[i].1 else W[i].1)) ∧ Hid (Kp (Wr r (.slice la W.length lc)) w wr)) (fun iv _ => W.length - (intOf iv).toNat)
  case atStart => exact ⟨0, W, Nat.zero_le _, rfl, ⟨HH.out, rfl, fun i hi => by rw [if_neg (by omega), List.getElem?_map, List.getElem?_eq_getElem hi]; rfl⟩, Kp.refl _ _⟩
  case round =>
    obtain ⟨j, V, hj, rfl, HV, HKP⟩ := hrel
    obtain ⟨ac2, _, d0, _, _, _, _, _, df⟩ := HV.out.1.cells
    have df2 := df 2
    clear df
    by_cases hjl : j < W.length
    · have hjV : j < V.length := by rw [HV.out.2.1]; exact hjl
      obtain ⟨g, off, cap, a1, c1, e, h1, h2, hg, hgr, r0, r1, r2, he2, hc1⟩ := HV.out.1.elem j hjV
      simp only [Value.slice.injEq] at e
      obtain ⟨rfl, hVL, rfl⟩ := e
      have hVj : V[j].1 = W[j].1 := by
        have h3 := HV.out.2.2 j hjl
        rw [if_neg (by omega), List.getElem?_map, List.getElem?_eq_getElem hjV] at h3
        simpa using h3
      have hsj := HS.out W[j] (List.getElem_mem hjl)
      rw [← hVj] at hsj
      have HDB := hide (HV.out.1.dat V[j] (List.getElem_mem hjV))
      have HVJ := hide hVj
      obtain ⟨o, ho⟩ : ∃ o, V[j] = o := ⟨_, rfl⟩
      have HO := hide ho
      rw [ho] at r0 r1 r2 he2 hc1 hsj HDB HVJ
      obtain ⟨⟨s, l, z⟩, ov⟩ := o
      dsimp only at r0 r1 r2 he2 hc1 hsj HDB HVJ
      subst he2
      obtain ⟨m, hm⟩ : ∃ m, l.length = m := ⟨_, rfl⟩
      have HM := hide hm
      rw [hm] at r1 hc1 hsj
      obtain ⟨N, hN⟩ : ∃ N, stay m z keep = N := ⟨_, rfl⟩
      have hst : N ≤ m ∧ z ≤ N ∧ (keep < (m : Int) - (z : Int) → (keep > 0 → (N : Int) = (z : Int) + keep) ∧ (¬ keep > 0 → N = z)) ∧ (¬ keep < (m : Int) - (z : Int) → N = m) := by
        rw [← hN]
        unfold stay
        refine ⟨by omega, by omega, fun h => ⟨fun h2 => by omega, fun h2 => by omega⟩, fun h => by omega⟩
      have HN := hide hN
      have hf1 := wy_froz HV.out.1.row (off + j * 3 + 1)
      have hf2 := wy_froz HV.out.1.row (off + j * 3 + 2)
      have hji : (j : Int) < (W.length : Int) := by omega
      have hwt : IntKind.i64.wrap ((m : Int) - (z : Int)) = (m : Int) - (z : Int) := by rw [IntKind.wrap_i64]; omega
      clear ho hm hN hVL hVj
      go_upto_if 37 with fail
      go_cut [5] (fun v wx => v = .int .i64 (N : Int) ∧ wx = wr)
      case first =>
        by_cases hk1 : keep < (m : Int) - (z : Int)
        · by_cases hk2 : keep > 0
          · have e1 := (hst.2.2.1 hk1).1 hk2
            have hw2 : IntKind.i64.wrap ((z : Int) + keep) = (N : Int) := by rw [IntKind.wrap_i64]; omega
            go_wp2
            go_meet
            exact ⟨by first | rfl | go_num, rfl⟩
          · have e1 := (hst.2.2.1 hk1).2 hk2
            go_wp2
            go_meet
            exact ⟨by rw [e1], rfl⟩
        · have e1 := hst.2.2.2 hk1
          go_wp2
          go_meet
          exact ⟨by rw [e1], rfl⟩
      case rest =>
        obtain ⟨rfl, rfl⟩ := hcut
        have hNm : N ≤ m := hst.1
        have hNc : (N : Int) ≤ (c1 : Int) := by omega
        clear r2 hwt hst
        go_wp2_with fail
        go_big_region
        have hlN : (l.take N).length = N := by rw [List.length_take, HM.out]; omega
        have hdb : DB B wc (.slice a1 N N) (l.take N) ∧ ∀ q, (Value.slice a1 N N).ownBlock = some q → q ≠ r ∧ q ≠ g := by
          have h1 := HDB.out.1.1.front (m := N) (by rw [HM.out]; exact hNm)
          have ho : ∀ q, (Value.slice a1 N N).ownBlock = some q → (Value.slice a1 l.length c1).ownBlock = some q := fun q e => by
            cases a1
            · simp [Value.ownBlock] at e
            · simpa [Value.ownBlock] using e
          refine ⟨⟨h1, fun q e => HDB.out.1.2 q (ho q e)⟩, fun q e => ⟨(HDB.out.2 q (ho q e)).1, fun e2 => (HDB.out.2 q (ho q e)).2 (by rw [e2]; rfl)⟩⟩
        have hR1 := HV.out.1.setF j hjV ((s, l.take N, z), .slice a1 N N) 1 (.slice a1 N N) (by decide) (by rw [HO.out]; rfl) (by rw [HO.out]) hdb.1 hdb.2
        have hK1 : Kp (Wr r (.slice (some ⟨g, off, none⟩) W.length lc)) w (wc.setCell ⟨g, off + j * 3 + 1, none⟩ (.slice a1 N N)).drew := (Kp.setCell (S := Wr r (.slice (some ⟨g, off, none⟩) W.length lc)) HKP.out (.inr rfl) _).below (Below.drew (Below.refl _ _))
        have hR2 := hR1.below (Below.drew (Below.refl _ _))
        have hdb2 := hdb.1.same (w' := (wc.setCell ⟨g, off + j * 3 + 1, none⟩ (.slice a1 N N)).drew) (by simp) (fun q e => by
          show (wc.setCell ⟨g, off + j * 3 + 1, none⟩ (.slice a1 N N)).heap[q]? = _
          exact blk_set_other _ _ _ _ (hdb.2 q e).2)
        obtain ⟨w2, hw2⟩ : ∃ w2, (wc.setCell ⟨g, off + j * 3 + 1, none⟩ (.slice a1 N N)).drew = w2 := ⟨_, rfl⟩
        rw [hw2] at hR2 hK1 hdb2 ⊢
        have HR2 := hide hR2
        have HK1 := hide hK1
        have HDB2 := hide (And.intro hdb2 hdb.2)
        obtain ⟨_, _, k0, _, _, _, _, _, _⟩ := hR2.cells
        have hjs : j < (V.set j ((s, l.take N, z), .slice a1 N N)).length := by rw [List.length_set]; exact hjV
        obtain ⟨g9, off9, cap9, a9, c9, e9, _, _, _, _, _, _, q2, _, _⟩ := hR2.elem j hjs
        simp only [Value.slice.injEq, Option.some.injEq, Addr.mk.injEq, and_true] at e9
        obtain ⟨⟨rfl, rfl⟩, _, _⟩ := e9
        have hf9 := wy_froz hR2.row (off + j * 3 + 2)
        have HJS := hide hjs
        clear hR1 hR2 hK1 hdb hdb2 hw2 r0 r1 hf1 hf2 df2 d0
        rw [List.getElem_set_self] at q2
        go_wp2
        refine ⟨⟨j + 1, (V.set j ((s, l.take N, z), .slice a1 N N)).set j ((s, l.take N, N), .slice a1 N N), by omega, by go_num, ⟨HR2.out.setF j HJS.out ((s, l.take N, N), .slice a1 N N) 2 (.int .i64 (N : Int)) (by decide) (by rw [List.getElem_set_self]; rfl) (by rw [List.getElem_set_self]) HDB2.out.1 HDB2.out.2, by rw [List.length_set, List.length_set]; exact HV.out.2.1, fun i hi => ?_⟩, Kp.setCell (S := Wr r (.slice (some ⟨g, off, none⟩) W.length lc)) HK1.out (.inr rfl) _⟩, by simp [intOf]; omega⟩
        rw [List.set_set, List.getElem?_map]
        by_cases hij : i = j
        · subst hij
          rw [List.getElem?_set_self hjV, if_pos (by omega), ← HVJ.out]
          show some (s, l.take N, N) = some (s, l.take (stay l.length z keep), stay l.length z keep)
          rw [HM.out, HN.out]
        · rw [List.getElem?_set_ne (fun h => hij h.symm)]
          have h9 := HV.out.2.2 i hi
          rw [List.getElem?_map] at h9
          rw [h9]
          congr 1
          by_cases h5 : i < j
          · rw [if_pos h5, if_pos (by omega)]
          · rw [if_neg h5, if_neg (by omega)]
    · have hjl' : j = W.length := by omega
      subst hjl'
      have HFL := hide (HV.out.1.fallen u)
      obtain ⟨ac3, ha3, hb3⟩ := HV.out.1.blk
      have hb4 : (wr.setCell ⟨r, 2, none⟩ (.bool true)).frozen? ⟨r, 3, none⟩ = false := by
        have h5 : (wr.setCell ⟨r, 2, none⟩ (.bool true)).heap[r]? = some (.cells ((rxA (.slice la W.length lc) x ac3).setIfInBounds 2 (.bool true)) 79 (0, 0)) := blk_set hb3 _ _
        exact frozen_of h5 3
      have HMP : Hid (V.map (·.1) = (W.map (·.1)).map (fl keep)) := by
        refine List.ext_getElem? fun i => ?_
        by_cases hi : i < W.length
        · rw [HV.out.2.2 i hi, if_pos hi, List.getElem?_map, List.getElem?_map, List.getElem?_eq_getElem hi]
          rfl
        · rw [List.getElem?_eq_none (by rw [List.length_map, HV.out.2.1]; omega), List.getElem?_eq_none (by rw [List.length_map, List.length_map]; omega)]
      clear hb3 ha3
      go_wp2
      first | go_end0 | refine bodyPost_ret (results_none rfl _ _ _) rfl ?_
      exact ⟨rfl, V, HFL.out, by first | exact HMP.out | (rw [← List.map_map]; exact HMP.out), Kp.setCell (S := Wr r (.slice la W.length lc)) (Kp.setCell (S := Wr r (.slice la W.length lc)) HKP.out (.inl rfl) _) (.inl rfl) _⟩
end
end Go.Proofs.Ytgkdecjlanbmhaa
