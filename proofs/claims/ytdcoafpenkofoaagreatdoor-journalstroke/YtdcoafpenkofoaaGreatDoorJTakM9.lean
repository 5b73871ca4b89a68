import Derived.Test.YtdcoafpenkofoaaGreatDoorJMetM9
import Derived.Test.YtdcoafpenkofoaaGreatDoorDLawSM9
import Derived.Laws.ResultCell

/- Stage 20: clearNew; a disk's log. -/
namespace Go.Proofs.YtdcoafpenkofoaaGreatDoor
open Go.RowKit Go.Maps Go.MuLone
set_option linter.unusedVariables false
set_option linter.unusedSimpArgs false
def jCl (x : Dx) (F : List Fi) : Int × Dx × List Fi := (if (dDel x F kN).1 = 191 then 0 else (dDel x F kN).1, (dDel x F kN).2)
set_option maxHeartbeats 2000000 in
theorem clearNew_any (S : Nat → Prop) (w wi : World) (d j : Nat) (x : Dx) (F : List Fi) (sz : Int) (tl : Bool) (h : JS S w wi d j x F sz tl) :
    Calls Tryz.prog 89 #[.pointer (some ⟨j, 0, none⟩)] wi fun e w' => e = .returned (amV (jCl x F).1) ∧ ∃ S', (∀ q, S' q → S q ∨ wi.heap.size ≤ q) ∧ JS S' w w' d j (jCl x F).2.1 (jCl x F).2.2 sz tl ∧ Kp S wi w' := by
  obtain ⟨c0, _, _, _⟩ := h.cells
  have HA := hide (aw_delete h.aw kN)
  have HJ := hide h
  clear h
  go_enter Tryz.func89, Tryz.ntmps89
  go_wp2_with fail
  refine HA.out.mono ?_
  rintro e w1 ⟨rfl, hN⟩
  have HJ1 := hide (HJ.out.nx hN)
  clear hN
  obtain ⟨n, hn0⟩ : ∃ n, (dDel x F kN).1 = n := ⟨_, rfl⟩
  have HN0 := hide hn0
  rw [hn0]
  clear hn0
  by_cases h1 : n = 191
  · subst h1
    have HQ : Hid (jCl x F = (0, (dDel x F kN).2)) := by show _ = _; unfold jCl; rw [HN0.out]; rfl
    have HA0 : Hid (amV 0 = .nilIface) := rfl
    go_wp2
    go_ret
    rw [HQ.out]
    exact ⟨rfl, HJ1.out⟩
  · have hne : (n != 191) = true := by simpa using h1
    have HQ : Hid (jCl x F = (n, (dDel x F kN).2)) := by show _ = _; unfold jCl; rw [HN0.out, if_neg h1]
    clear h1
    go_wp2_with (go_at_call 91; refine (amiss_any _ _).mono ?_; rintro e w3 ⟨rfl, rfl⟩)
    go_ret
    rw [HQ.out]
    exact ⟨rfl, HJ1.out⟩
theorem kG_list : kG.toList = [108, 111, 103] := by first | decide | rfl | kernel_rfl
theorem isLog_any (s : ByteArray) (a : Option Addr) (n c : Nat) (z : Int) (w : World) : Calls Tryz.prog 88 #[.agg #[.string s, .slice a n c, .int .i64 z]] w fun e w' => e = .returned (.bool (decide (s = kG))) ∧ Below w.heap.size w w' := by
  have hs := str_eq s kG
  rw [kG_list] at hs
  cases hd : decide (s = kG)
  · rw [hd] at hs
    clear hd
    go_enter Tryz.func88, Tryz.ntmps88
    go_wp2
    go_ret
    exact ⟨rfl, bel1 (Below.refl _ _) (Nat.le_refl _) _⟩
  · rw [hd] at hs
    clear hd
    go_enter Tryz.func88, Tryz.ntmps88
    go_wp2
    go_ret
    exact ⟨rfl, bel1 (Below.refl _ _) (Nat.le_refl _) _⟩
set_option maxHeartbeats 2000000 in
set_option maxRecDepth 100000 in
theorem idxF_any (w : World) (base : Nat) (v : Value) (W : List Fo) (hw : Wy FK w base v W) (ht : Told base w W) :
    Calls Tryz.prog 87 #[v, .func (.func 88) #[] #[]] w fun e w' => ((∃ (i : Nat) (hi : i < W.length), W[i].1.1 = kG ∧ e = .returned (.int .i64 (i : Int))) ∨ ((∀ o ∈ W, o.1.1 ≠ kG) ∧ e = .returned (.int .i64 (-1)))) ∧ Below w.heap.size w w' := by
  obtain ⟨va, vc, rfl⟩ := hw.shape
  have HW := hide hw
  have HT := hide ht
  have hl : W.length ≤ maxLen := by
    rcases hw with ⟨_, rfl⟩ | ⟨g, off, cap, cur, _, _, h2, h3, _⟩
    · simp [maxLen]
    · omega
  have hl' : W.length ≤ 9223372036854775807 := hl
  clear hw ht hl
  go_enter Tryz.func87, Tryz.ntmps87
  go_wp2
  go_loopw [8] (fun i wr => ∃ k : Nat, k ≤ W.length ∧ i = .int .i64 (k : Int) ∧ Hid (∀ j (h : j < W.length), j < k → W[j].1.1 ≠ kG) ∧ Below w.heap.size w wr) (fun i _ => W.length - (intOf i).toNat)
  case atStart => exact ⟨0, Nat.zero_le _, rfl, fun j h hj => by omega, Below.refl _ _⟩
  case round =>
    obtain ⟨k, hk, rfl, HA, hb⟩ := hrel
    have HB := hide hb
    clear hb
    by_cases hkn : k < W.length
    · obtain ⟨g, off, cap, e, hc1, hc2, hg, r0, r1, r2⟩ := HW.out.elem k hkn
      simp only [Value.slice.injEq] at e
      obtain ⟨rfl, _, rfl⟩ := e
      have hob := HT.out.own W[k] (List.getElem_mem hkn)
      have hfv := fV_slice hob
      obtain ⟨xa, xc, hx, _⟩ := hob.slice
      rw [hfv, hx] at r1
      have q0 := (HB.out.cell (p := ⟨g, off + k * 3, none⟩) hg).trans r0
      have q1 := (HB.out.cell (p := ⟨g, off + k * 3 + 1, none⟩) hg).trans r1
      have q2 := (HB.out.cell (p := ⟨g, off + k * 3 + 2, none⟩) hg).trans r2
      obtain ⟨s, hs⟩ : ∃ s, W[k].1.1 = s := ⟨_, rfl⟩
      obtain ⟨m, hm⟩ : ∃ m, W[k].1.2.1.length = m := ⟨_, rfl⟩
      obtain ⟨z, hz⟩ : ∃ z, W[k].1.2.2 = z := ⟨_, rfl⟩
      have HS := hide hs
      rw [hs] at q0
      rw [hm] at q1
      rw [hz] at q2
      have HL := hide (isLog_any s xa m xc (z : Int) wr)
      have hki : (k : Int) < (W.length : Int) := by omega
      clear r0 r1 r2 hob hfv hx hs hm hz
      cases hd : decide (s = kG)
      · rw [hd] at HL
        have HNE : Hid (s ≠ kG) := hide (of_decide_eq_false hd)
        clear hd
        go_wp2_with (go_at_call 88; refine HL.out.mono ?_; rintro e w1 ⟨rfl, hb1⟩; have HB1 := hide (HB.out.trans (hb1.mono HB.out.size)); clear hb1)
        go_roundw
        case rel =>
          refine ⟨k + 1, by omega, by go_num, fun j h hj => ?_, HB1.out⟩
          rcases Nat.lt_or_ge j k with h1 | h1
          · exact HA.out j h h1
          · have : j = k := by omega
            subst this
            rw [HS.out]
            exact HNE.out
        case measure => simp [intOf]; omega
      · rw [hd] at HL
        have HEQ : Hid (s = kG) := hide (of_decide_eq_true hd)
        clear hd
        go_wp2_with (go_at_call 88; refine HL.out.mono ?_; rintro e w1 ⟨rfl, hb1⟩; have HB1 := hide (HB.out.trans (hb1.mono HB.out.size)); clear hb1)
        go_ret
        exact ⟨.inl ⟨k, hkn, HS.out.trans HEQ.out, rfl⟩, HB1.out⟩
    · have HN : Hid (∀ o ∈ W, o.1.1 ≠ kG) := fun o ho => by
        obtain ⟨j, hj, rfl⟩ := List.getElem_of_mem ho
        exact HA.out j hj (by omega)
      go_wp2
      go_ret
      exact ⟨.inr ⟨HN.out, rfl⟩, HB.out⟩
end Go.Proofs.YtdcoafpenkofoaaGreatDoor


/- Stage 20: a disk's log, as a file. -/
namespace Go.Proofs.YtdcoafpenkofoaaGreatDoor
open Go.RowKit Go.Maps Go.MuLone
set_option linter.unusedVariables false
set_option linter.unusedSimpArgs false
theorem AW.setC {S : Nat → Prop} {w wi : World} {d : Nat} {x : Dx} {F : List Fi} (h : AW S w wi d x F) {b o : Nat} (hn : ¬ S b) (hlo : w.heap.size ≤ b) (v : Value) : AW S w (wi.setCell ⟨b, o, none⟩ v) d x F :=
  ⟨fun k hk => by have := h.at_ k hk; simpa using this, ⟨h.dd.dsk.keepB (fun k hk => blk_set_other _ _ _ _ (fun e => hn (by rw [show b = k from e.symm]; exact hk))), h.dd.lk, h.dd.ok⟩, h.bel.setCell hlo _⟩
theorem Ob.setC {B : Nat} {w : World} {v : Value} {l : List Nat} (h : Ob B w v l) {b o : Nat} (hb : b < B) (z : Value) : Ob B (w.setCell ⟨b, o, none⟩ z) v l :=
  h.at_same fun g hg => blk_set_other _ _ _ _ (fun e => by have := (h.lt g hg).1; have : g = b := e; omega)
set_option maxHeartbeats 2000000 in
set_option maxRecDepth 100000 in
theorem logFile_any (S : Nat → Prop) (w wi : World) (d : Nat) (x : Dx) (F : List Fi) (h : AW S w wi d x F) (hn : F.length ≤ 2000000000000) :
    Calls Tryz.prog 54 #[.pointer (some ⟨d, 0, none⟩)] wi fun e w' => ∃ nm v, e = .returned (.agg #[.string nm, v, .int .i64 ((dat kG F).2 : Int)]) ∧ Ob wi.heap.size w' v (dat kG F).1 ∧ AW S w w' d x F ∧ Kp S wi w' := by
  obtain ⟨W1, hW1⟩ : ∃ W1, wi.alloc (.cells #[.string ⟨#[]⟩, .slice none 0 0, .int .i64 0] 73) = W1 := ⟨_, rfl⟩
  have hb1 : Below wi.heap.size wi W1 := by rw [← hW1]; exact bel1 (Below.refl _ _) (Nat.le_refl _) _
  have hB1 : W1.heap[wi.heap.size]? = some (.cells #[.string ⟨#[]⟩, .slice none 0 0, .int .i64 0] 73 (0, 0)) := by rw [← hW1]; exact heap_new _ _
  have hlt : wi.heap.size < W1.heap.size := (Array.getElem?_eq_some_iff.1 hB1).1
  have hnS : ¬ S wi.heap.size := fun hs => by have := (h.at_ _ hs).2; omega
  have HF := hide (aw_files (h.below hb1) hn)
  have HNM := hide h.names
  have HB1 := hide hb1
  have HBb := hide hB1
  have HL := hide hlt
  have HNS := hide hnS
  have HW1 := hide hW1
  have HSD : Hid (∀ k, S k → k < wi.heap.size) := fun k hk => (h.at_ k hk).2
  have HWL : Hid (w.heap.size ≤ wi.heap.size) := h.bel.size
  clear h hn hb1 hB1 hW1 hnS hlt
  go_enter Tryz.func54, Tryz.ntmps54
  go_wp2_with fail
  rw [HW1.out]
  refine HF.out.mono ?_
  rintro e w1 ⟨v, W, rfl, hw, hp, hs, ht, hA, hK⟩
  have HI := hide (idxF_any w1 _ v W hw ht)
  have HW := hide hw
  have HT := hide ht
  have HP := hide hp
  have HA := hide hA
  have HK := hide hK
  obtain ⟨va, vc, rfl⟩ := hw.shape
  have hcb : w1.heap[wi.heap.size]? = some (.cells #[.string ⟨#[]⟩, .slice none 0 0, .int .i64 0] 73 (0, 0)) := (hK.block HL.out HNS.out).trans HBb.out
  have HCB := hide hcb
  have HL1 : Hid (wi.heap.size < w1.heap.size) := (Array.getElem?_eq_some_iff.1 hcb).1
  clear hw ht hp hs hA hK hcb
  go_wp2_with fail
  refine HI.out.mono ?_
  rintro e w2 ⟨hcase, hb2⟩
  have HB2 := hide hb2
  have hC2 : w2.heap[wi.heap.size]? = some (.cells #[.string ⟨#[]⟩, .slice none 0 0, .int .i64 0] 73 (0, 0)) := (hb2.block _ HL1.out).trans HCB.out
  have t0 := cellOf hC2 0 (.string ⟨#[]⟩) rfl
  have t1 := cellOf hC2 1 (.slice none 0 0) rfl
  have t2 := cellOf hC2 2 (.int .i64 0) rfl
  have f0 := frozen_of hC2 0
  have f1 := frozen_of hC2 1
  have f2 := frozen_of hC2 2
  have HC2 := hide hC2
  clear hb2 hC2
  have HS : Hid (∀ (a b c : Value), AW S w (((w2.setCell ⟨wi.heap.size, 0, none⟩ a).setCell ⟨wi.heap.size, 1, none⟩ b).setCell ⟨wi.heap.size, 2, none⟩ c) d x F ∧ Kp S wi (((w2.setCell ⟨wi.heap.size, 0, none⟩ a).setCell ⟨wi.heap.size, 1, none⟩ b).setCell ⟨wi.heap.size, 2, none⟩ c)) := fun a b c =>
    ⟨(((HA.out.below HB2.out).setC HNS.out HWL.out a).setC HNS.out HWL.out b).setC HNS.out HWL.out c, (((((Kp.ofBelow HB1.out).trans HK.out).below HB2.out).fresh (Nat.le_refl _) a).fresh (Nat.le_refl _) b).fresh (Nat.le_refl _) c⟩
  have HDD : Hid (∀ (a b c : Value), (((w2.setCell ⟨wi.heap.size, 0, none⟩ a).setCell ⟨wi.heap.size, 1, none⟩ b).setCell ⟨wi.heap.size, 2, none⟩ c).heap[wi.heap.size]? = some (.cells #[a, b, c] 73 (0, 0))) := fun a b c => blk_set (blk_set (blk_set HC2.out 0 a) 1 b) 2 c
  rcases hcase with ⟨i, hi, hk, rfl⟩ | ⟨hno, rfl⟩
  · obtain ⟨g, off, cap, e, hc1, hc2, hg, r0, r1, r2⟩ := HW.out.elem i hi
    simp only [Value.slice.injEq] at e
    obtain ⟨rfl, _, rfl⟩ := e
    have hob := HT.out.own W[i] (List.getElem_mem hi)
    rw [fV_slice hob] at r1
    have q0 := (HB2.out.cell (p := ⟨g, off + i * 3, none⟩) hg).trans r0
    have q1 := (HB2.out.cell (p := ⟨g, off + i * 3 + 1, none⟩) hg).trans r1
    have q2 := (HB2.out.cell (p := ⟨g, off + i * 3 + 2, none⟩) hg).trans r2
    have HD : Hid (dat kG F = W[i].1.2) := dat_mem HNM.out (HP.out.mem_iff.1 (List.mem_map_of_mem (List.getElem_mem hi))) hk
    obtain ⟨o, ho⟩ : ∃ o, W[i] = o := ⟨_, rfl⟩
    rw [ho] at q0 q1 q2 hob HD
    obtain ⟨xa, xc, hx, _⟩ := hob.slice
    rw [hx] at q1 hob
    obtain ⟨s, hs⟩ : ∃ s, o.1.1 = s := ⟨_, rfl⟩
    obtain ⟨m, hm⟩ : ∃ m, o.1.2.1.length = m := ⟨_, rfl⟩
    obtain ⟨z, hz⟩ : ∃ z, o.1.2.2 = z := ⟨_, rfl⟩
    rw [hs] at q0
    rw [hm] at q1 hob
    rw [hz] at q2
    have HOB := hide hob
    have HZ := hide hz
    clear r0 r1 r2 hob hx hs hm hz ho hk
    have hki : (i : Int) < (W.length : Int) := by omega
    go_wp2
    have d0 := cellOf (HDD.out (.string s) (.slice xa m xc) (.int .i64 (z : Int))) 0 _ rfl
    have d1 := cellOf (HDD.out (.string s) (.slice xa m xc) (.int .i64 (z : Int))) 1 _ rfl
    have d2 := cellOf (HDD.out (.string s) (.slice xa m xc) (.int .i64 (z : Int))) 2 _ rfl
    refine bodyPost_ret (v := .agg #[.string s, .slice xa m xc, .int .i64 (z : Int)]) (by simp [results, Tryz.results54, go_sem, d0, d1, d2]) rfl ?_
    have hbl : wi.heap.size < W1.heap.size := HL.out
    rw [HD.out]
    exact ⟨s, _, by rw [HZ.out], (((HOB.out.below HB2.out).setC hbl _ |>.setC hbl _ |>.setC hbl _).mono (Nat.le_of_lt hbl)), HS.out _ _ _⟩
  · have HD : Hid (dat kG F = ([], 0)) := dat_none fun hm => by
      obtain ⟨f, hf, hfk⟩ := List.mem_map.1 hm
      obtain ⟨o, ho, hof⟩ := List.mem_map.1 (HP.out.mem_iff.2 hf)
      exact hno o ho (by rw [hof]; exact hfk)
    clear hno
    go_wp2
    have d0 := cellOf (HDD.out (.string ⟨#[]⟩) (.slice none 0 0) (.int .i64 0)) 0 _ rfl
    have d1 := cellOf (HDD.out (.string ⟨#[]⟩) (.slice none 0 0) (.int .i64 0)) 1 _ rfl
    have d2 := cellOf (HDD.out (.string ⟨#[]⟩) (.slice none 0 0) (.int .i64 0)) 2 _ rfl
    refine bodyPost_ret (v := .agg #[.string ⟨#[]⟩, .slice none 0 0, .int .i64 0]) (by simp [results, Tryz.results54, go_sem, d0, d1, d2]) rfl ?_
    rw [HD.out]
    exact ⟨_, _, rfl, Ob.nil _ _, HS.out _ _ _⟩
end Go.Proofs.YtdcoafpenkofoaaGreatDoor


/- Stage 20: takeUp. -/
namespace Go.Proofs.YtdcoafpenkofoaaGreatDoor
open Go.RowKit Go.Maps Go.MuLone
set_option linter.unusedVariables false
set_option linter.unusedSimpArgs false
/-- taking up a log of n bytes, z of them safe, no tail behind it -/
def jTk (x : Dx) (F : List Fi) (n z : Nat) : Int × Dx × List Fi := if (jCl x F).1 ≠ 0 then jCl x F else if z = n then (0, (jCl x F).2) else dSync (jCl x F).2.1 (jCl x F).2.2 kG
set_option maxHeartbeats 2000000 in
theorem takeUp_no (S : Nat → Prop) (w wi : World) (d j : Nat) (x : Dx) (F : List Fi) (sz : Int) (h : JS S w wi d j x F sz false) (nm : ByteArray) (a : Option Addr) (n c z : Nat) :
    Calls Tryz.prog 55 #[.pointer (some ⟨j, 0, none⟩), .agg #[.string nm, .slice a n c, .int .i64 (z : Int)]] wi fun e w' => e = .returned (amV (jTk x F n z).1) ∧ ∃ S', (∀ q, S' q → S q ∨ wi.heap.size ≤ q) ∧ JS S' w w' d j (jTk x F n z).2.1 (jTk x F n z).2.2 sz false ∧ Kp S wi w' := by
  obtain ⟨W1, hW1⟩ : ∃ W1, wi.alloc (.cells #[.string nm, .slice a n c, .int .i64 (z : Int)] 73) = W1 := ⟨_, rfl⟩
  have hb1 : Below wi.heap.size wi W1 := by rw [← hW1]; exact bel1 (Below.refl _ _) (Nat.le_refl _) _
  have hB1 : W1.heap[wi.heap.size]? = some (.cells #[.string nm, .slice a n c, .int .i64 (z : Int)] 73 (0, 0)) := by rw [← hW1]; exact heap_new _ _
  have hlt : wi.heap.size < W1.heap.size := (Array.getElem?_eq_some_iff.1 hB1).1
  have hnS : ¬ S wi.heap.size := fun hs => by have := (h.aw.at_ _ hs).2; omega
  have HC := hide (clearNew_any S w W1 d j x F sz false (h.below hb1))
  have HB1 := hide hb1
  have HBb := hide hB1
  have HL := hide hlt
  have HNS := hide hnS
  have HW1 := hide hW1
  clear h hb1 hB1 hW1 hnS hlt
  go_enter Tryz.func55, Tryz.ntmps55
  go_wp2_with fail
  rw [HW1.out]
  refine HC.out.mono ?_
  rintro e w1 ⟨rfl, S1, hS1, hJ1, hK1⟩
  obtain ⟨c0, _, c2, _⟩ := hJ1.cells
  have hcb := (hK1.block HL.out HNS.out).trans HBb.out
  have t0 := cellOf hcb 0 (.string nm) rfl
  have t1 := cellOf hcb 1 (.slice a n c) rfl
  have t2 := cellOf hcb 2 (.int .i64 (z : Int)) rfl
  replace hK1 : Kp S wi w1 := (Kp.ofBelow HB1.out).trans hK1
  replace hS1 : ∀ q, S1 q → S q ∨ wi.heap.size ≤ q := fun q hq => (hS1 q hq).imp id (fun h => Nat.le_trans HB1.out.size h)
  clear hcb
  have HJ1 := hide (And.intro hS1 (And.intro hJ1 hK1))
  by_cases h0 : (jCl x F).1 = 0
  · have HA : Hid (amV (jCl x F).1 = .nilIface) := by show _ = _; rw [h0]; rfl
    have HY := hide (aw_sync hJ1.aw kG)
    have H0 := hide h0
    rw [HA.out]
    clear hS1 hJ1 hK1 h0
    by_cases hz : z = n
    · have HQ : Hid (jTk x F n z = (0, (jCl x F).2)) := by show _ = _; unfold jTk; rw [if_neg (by rw [H0.out]; simp), if_pos hz]
      have hzb : ((z : Int) == (n : Int)) = true := by rw [hz]; simp
      clear hz
      go_wp2
      go_ret
      rw [HQ.out]
      exact ⟨rfl, S1, HJ1.out⟩
    · have HQ : Hid (jTk x F n z = dSync (jCl x F).2.1 (jCl x F).2.2 kG) := by show _ = _; unfold jTk; rw [if_neg (by rw [H0.out]; simp), if_neg hz]
      have hzb : ((z : Int) == (n : Int)) = false := beq_eq_false_iff_ne.2 (by omega)
      clear hz
      go_wp2_with fail
      refine HY.out.mono ?_
      rintro e w2 ⟨rfl, hN⟩
      have HJ2 := hide (HJ1.out.2.1.nx hN)
      have HM := hide (amiss_any (dSync (jCl x F).2.1 (jCl x F).2.2 kG).1 w2)
      clear hN
      obtain ⟨q, hq⟩ : ∃ q, (dSync (jCl x F).2.1 (jCl x F).2.2 kG).1 = q := ⟨_, rfl⟩
      have HQQ := hide hq
      rw [hq] at HM ⊢
      clear hq
      go_wp2_with fail
      refine HM.out.mono ?_
      rintro e w3 ⟨rfl, rfl⟩
      go_wp2
      go_ret
      rw [HQ.out, HQQ.out]
      refine ⟨rfl, ?_⟩
      obtain ⟨S2, hS2, hJ2, hK2⟩ := HJ2.out
      refine ⟨S2, fun q hq => ?_, hJ2, HJ1.out.2.2.transN hK2 (fun k hk => HJ1.out.1 k hk)⟩
      rcases hS2 q hq with h | h
      · exact HJ1.out.1 q h
      · exact .inr (Nat.le_trans HJ1.out.2.2.size h)
  · have HA : Hid (amV (jCl x F).1 = .iface 82 (.int .i64 (jCl x F).1)) := if_neg h0
    have HQ : Hid (jTk x F n z = jCl x F) := if_pos h0
    rw [HA.out]
    clear hS1 hJ1 hK1 h0
    go_wp2
    go_ret
    rw [HQ.out, HA.out]
    exact ⟨rfl, S1, HJ1.out⟩
end Go.Proofs.YtdcoafpenkofoaaGreatDoor
