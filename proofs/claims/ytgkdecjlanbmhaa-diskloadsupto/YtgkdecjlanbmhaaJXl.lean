
/- Stages 19, 20: the document's disk: Files. -/
import Derived.Test.YtgkdecjlanbmhaaJXk
namespace Go.Proofs.Ytgkdecjlanbmhaa
open Go.RowKit Go.Maps Go.MuLone
set_option linter.unusedVariables false
set_option linter.unusedSimpArgs false
theorem heap_newN {W : World} {n : Nat} (h : W.heap.size = n) (cs : Array Value) (t : TypeId) : (W.alloc (.cells cs t (0, 0))).heap[n]? = some (.cells cs t (0, 0)) := by
  subst h
  exact heap_new _ _
section
variable {w w' : World} {B r : Nat} {lv : Value} {x : Dx} {W : List Fo}
theorem told_push {base : Nat} {wn w5 w6 : World} {v : Value} {U : List Fo} {o : Fo} (hU : Told base wn U) (hW : Wy FK w5 base v U) (hb : Below wn.heap.size wn w5) (ho : Ob wn.heap.size w5 o.2 o.1.2.1) (hbase : base ≤ wn.heap.size) (hg : w5.grownBy w6 v.ownBlock) (hv : ∀ g, v.ownBlock = some g → g < wn.heap.size) : Told base w6 (U ++ [o]) := by
  have t4 := hU.below hb
  have t5 : Told base w6 U := t4.keep (fun q hq g hgq => hg.block g ((t4.own q hq).lt g hgq).2 (fun h => t4.apart hW hq hgq h.symm))
  have o5 : Ob wn.heap.size w6 o.2 o.1.2.1 := ho.at_same (fun g hgq => hg.block g (ho.lt g hgq).2 (fun h => by
    have h1 := hv g h.symm
    have h2 := (ho.lt g hgq).1
    omega))
  exact t5.push (B := wn.heap.size) (o5.mono hbase) (fun g hgq => (o5.lt g hgq).1) (fun q hq g hgq => ((hU.own q hq).lt g hgq).2)
set_option maxHeartbeats 4000000 in
set_option maxRecDepth 100000 in
theorem files_r (h : RD w B r lv x W) (hz : ∀ o ∈ W, o.1.2.1.length ≤ 140737488355328) (hn : W.length ≤ 2000000000000) : Calls Try.prog 20 #[.pointer (some ⟨r, 0, none⟩)] w fun e w' => ∃ v U, e = .returned v ∧ Wy FK w' w.heap.size v U ∧ U.map (·.1) = W.map (·.1) ∧ Told w.heap.size w' U ∧ Below w.heap.size w w' := by
  have HH := hide h
  have HS := hide hz
  obtain ⟨ac, _, c0, _⟩ := h.cells
  obtain ⟨la, lc, rfl⟩ := h.row.shape
  clear h hz c0
  go_enter Try.func20, Try.ntmps20
  go_wp2
  go_loopw [3, 4] (fun ov iv wr => ∃ (j : Nat) (U : List Fo), j ≤ W.length ∧ iv = .int .i64 (j : Int) ∧ Hid (Wy FK wr w.heap.size ov U ∧ U.map (·.1) = (W.map (·.1)).take j) ∧ Hid (Told w.heap.size wr U) ∧ Hid (Below w.heap.size w wr)) (fun _ iv _ => W.length - (intOf iv).toNat)
  case atStart => exact ⟨0, [], Nat.zero_le _, rfl, ⟨.inl ⟨rfl, rfl⟩, rfl⟩, Told.nil _ _, Below.refl _ _⟩
  case round =>
    obtain ⟨j, U, hj, rfl, HW, HT, HB⟩ := hrel
    obtain ⟨oa, oc, rfl⟩ := HW.out.1.shape
    have HR := hide (HH.out.below HB.out)
    obtain ⟨ac2, _, d0, _, _, _, _, _, _⟩ := HR.out.cells
    have HBA : Hid (w.heap.size ≤ wr.heap.size) := HB.out.size
    by_cases hjl : j < W.length
    · obtain ⟨g, off, cap, a1, c1, e, h1, h2, hg, hgr, r0, r1, r2, he2, _⟩ := HR.out.elem j hjl
      simp only [Value.slice.injEq] at e
      obtain ⟨rfl, _, rfl⟩ := e
      have HTJ : Hid ((W.map (·.1)).take (j + 1) = (W.map (·.1)).take j ++ [W[j].1]) := by
        show _ = _
        rw [List.take_succ_eq_append_getElem (by simpa using hjl)]
        simp
      have hsj := HS.out W[j] (List.getElem_mem hjl)
      have hdj := (HR.out.dat W[j] (List.getElem_mem hjl)).1.1
      have hji : (j : Int) < (W.length : Int) := by omega
      have hUL : U.length ≤ j := by
        have h3 := congrArg List.length HW.out.2
        rw [List.length_map, List.length_take] at h3
        omega
      have HUL := hide hUL
      obtain ⟨o, ho⟩ : ∃ o, W[j] = o := ⟨_, rfl⟩
      rw [ho] at r0 r1 r2 he2 HTJ hsj hdj
      obtain ⟨⟨s1, l1, z1⟩, ov2⟩ := o
      dsimp only at r0 r1 r2 he2 HTJ hsj hdj
      subst he2
      have HSJ := hide hsj
      obtain ⟨wa, hwa⟩ : ∃ wa, wr.alloc (.cells #[.string s1, .slice a1 l1.length c1, .int .i64 (z1 : Int)] 44) = wa := ⟨_, rfl⟩
      have hba : Below wr.heap.size wr wa := by rw [← hwa]; exact bel1 (Below.refl _ _) (Nat.le_refl _) _
      have hOa : wa.heap[wr.heap.size]? = some (.cells #[.string s1, .slice a1 l1.length c1, .int .i64 (z1 : Int)] 44 (0, 0)) := by rw [← hwa]; exact heap_new _ _
      have hza : wa.heap.size = wr.heap.size + 1 := by rw [← hwa]; simp
      have HCP := hide (copied_any (.slice a1 l1.length c1) l1 wa (hdj.below hba) hsj)
      have HBa := hide hba
      have HOa := hide hOa
      have HZa := hide hza
      have HWa := hide hwa
      have q1 : wa.cell? ⟨wr.heap.size, 1, none⟩ = some (.slice a1 l1.length c1) := cellOf hOa 1 _ rfl
      have HNL : Hid (U.length ≤ 2000000000000) := by show _ ≤ _; omega
      clear ho hsj hdj hba hOa hza hUL hwa
      go_wp2_with fail
      rw [HWa.out]
      go_wp2_with fail
      refine HCP.out.mono ?_
      rintro e w5 ⟨v5, rfl, ho5, hb5⟩
      obtain ⟨a5, c5, rfl, _⟩ := ho5.slice
      have hO5 := (hb5.block wr.heap.size (by rw [HZa.out]; exact Nat.lt_succ_self _)).trans HOa.out
      have p0 : w5.cell? ⟨wr.heap.size, 0, none⟩ = some (.string s1) := cellOf hO5 0 _ rfl
      have p2 : w5.cell? ⟨wr.heap.size, 2, none⟩ = some (.int .i64 (z1 : Int)) := cellOf hO5 2 _ rfl
      have p3 := cellOf hO5 1 _ rfl
      have p1 := frozen_of hO5 1
      have HB6 : Hid (Below wr.heap.size wr (w5.setCell ⟨wr.heap.size, 1, none⟩ (.slice a5 l1.length c5))) := (HBa.out.trans (hb5.mono (by have := HZa.out; omega))).setCell (Nat.le_refl _) _
      have HO6 : Hid (Ob wr.heap.size (w5.setCell ⟨wr.heap.size, 1, none⟩ (.slice a5 l1.length c5)) (.slice a5 l1.length c5) l1) := (ho5.mono (by have := HZa.out; omega)).at_same (fun q e => blk_set_other _ _ _ _ (fun e2 => by
        have h3 := (ho5.lt q e).1
        have h4 := HZa.out
        have h5 : q = wr.heap.size := e2
        omega))
      have HZ6 : Hid (w.heap.size ≤ (w5.setCell ⟨wr.heap.size, 1, none⟩ (.slice a5 l1.length c5)).heap.size) := Nat.le_trans HBA.out HB6.out.size
      have HZS : Hid ((w5.setCell ⟨wr.heap.size, 1, none⟩ (.slice a5 l1.length c5)).heap.size = w5.heap.size) := by show _ = _; simp
      clear hO5 ho5 hb5 HCP r0 r1 r2 d0 q1
      go_wp2_with (at_builtin; go_loud (refine wpList_append_way fkOk _ rfl (.tmp 26) (.tmp 28) rfl w.heap.size (.slice oa U.length oc) U ((s1, l1, z1), .slice a5 l1.length c5) rfl ((HW.out.1.at fun q e => HB6.out.block q (HW.out.1.lt e).2).at fun q e => Below.heap_alloc _ _ _ (Nat.lt_of_lt_of_le (HW.out.1.lt e).2 HB6.out.size)) _ 1 rfl (heap_newN HZS.out _ _) (Nat.le_trans HZ6.out (by simp)) (by show (List.length _ + 1) * 48 ≤ _; have := HNL.out; omega) ?_); intro v7 w7 hw7 hg7 hs7; have HW7 := hide hw7; have HG7 := hide hg7; clear hw7 hg7 hs7)
      have HBU : Hid (Below wr.heap.size wr ((w5.setCell ⟨wr.heap.size, 1, none⟩ (.slice a5 l1.length c5)).alloc (.cells #[.string s1, .slice a5 l1.length c5, .int .i64 (z1 : Int)] 44))) := bel1 HB6.out HB6.out.size _
      have HB7 : Hid (Below w.heap.size w w7) := (HB.out.trans (HBU.out.mono HBA.out)).grown HG7.out (Nat.le_trans HZ6.out (by simp)) (fun q hq => (HW.out.1.lt hq).1)
      have HT7 : Hid (Told w.heap.size w7 (U ++ [((s1, l1, z1), .slice a5 l1.length c5)])) := told_push HT.out (HW.out.1.at fun q e => HBU.out.block q (HW.out.1.lt e).2) HBU.out (HO6.out.at_same (fun q e => Below.heap_alloc _ _ _ (HO6.out.lt q e).2)) HBA.out HG7.out (fun q e => (HW.out.1.lt e).2)
      refine ⟨⟨j + 1, _, by omega, by go_num, ⟨HW7.out, ?_⟩, HT7.out, HB7.out⟩, by simp [intOf]; omega⟩
      rw [List.map_append, HW.out.2, HTJ.out]
      rfl
    · have hq : (W.map (·.1)).take j = W.map (·.1) := List.take_of_length_le (by rw [List.length_map]; omega)
      have HQ := hide hq
      clear hq
      go_wp2
      go_ret
      exact ⟨_, rfl, U, HW.out.1, HW.out.2.trans HQ.out, HT.out, HB.out⟩
end
end Go.Proofs.Ytgkdecjlanbmhaa
