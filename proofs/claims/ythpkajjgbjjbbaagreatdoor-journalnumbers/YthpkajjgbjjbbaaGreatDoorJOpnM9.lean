import Derived.Test.YthpkajjgbjjbbaaGreatDoorJFilM9
import Derived.Laws.ResultCell
import Derived.Test.YthpkajjgbjjbbaaGreatDoorJScan

/- Stage 20: a disk's log, as a file. -/
namespace Go.Proofs.YthpkajjgbjjbbaaGreatDoor
open Go.RowKit Go.Maps Go.MuLone
set_option linter.unusedVariables false
set_option linter.unusedSimpArgs false
theorem AW.setC {S : Nat → Prop} {w wi : World} {d : Nat} {x : Dx} {F : List Fi} (h : AW S w wi d x F) {b o : Nat} (hn : ¬ S b) (hlo : w.heap.size ≤ b) (v : Value) : AW S w (wi.setCell ⟨b, o, none⟩ v) d x F :=
  ⟨fun k hk => by have := h.at_ k hk; simpa using this, ⟨h.dd.dsk.keepB (fun k hk => blk_set_other _ _ _ _ (fun e => hn (by rw [show b = k from e.symm]; exact hk))), h.dd.lk, h.dd.ok⟩, h.bel.setCell hlo _⟩
theorem Ob.setC {B : Nat} {w : World} {v : Value} {l : List Nat} (h : Ob B w v l) {b o : Nat} (hb : b < B) (z : Value) : Ob B (w.setCell ⟨b, o, none⟩ z) v l :=
  h.at_same fun g hg => blk_set_other _ _ _ _ (fun e => by have := (h.lt g hg).1; have : g = b := e; omega)
set_option maxHeartbeats 2000000 in
set_option maxRecDepth 100000 in
theorem logFile_any (S : Nat → Prop) (w wi : World) (d : Nat) (x : Dx) (F : List Fi) (h : AW S w wi d x F) (hn : F.length ≤ 2000000000000) :
    Calls Tryz.prog 54 #[.pointer (some ⟨d, 0, none⟩)] wi fun e w' => ∃ nm v, e = .returned (.agg #[.string nm, v, .int .i64 ((dat kG F).2 : Int)]) ∧ Ob wi.heap.size w' v (dat kG F).1 ∧ AW S w w' d x F ∧ Kp S wi w' := by
  obtain ⟨W1, hW1⟩ : ∃ W1, wi.alloc (.cells #[.string ⟨#[]⟩, .slice none 0 0, .int .i64 0] 73) = W1 := ⟨_, rfl⟩
  have hb1 : Below wi.heap.size wi W1 := by rw [← hW1]; exact bel1 (Below.refl _ _) (Nat.le_refl _) _
  have hB1 : W1.heap[wi.heap.size]? = some (.cells #[.string ⟨#[]⟩, .slice none 0 0, .int .i64 0] 73 (0, 0)) := by rw [← hW1]; exact heap_new _ _
  have hlt : wi.heap.size < W1.heap.size := (Array.getElem?_eq_some_iff.1 hB1).1
  have hnS : ¬ S wi.heap.size := fun hs => by have := (h.at_ _ hs).2; omega
  have HF := hide (aw_files (h.below hb1) hn)
  have HNM := hide h.names
  have HB1 := hide hb1
  have HBb := hide hB1
  have HL := hide hlt
  have HNS := hide hnS
  have HW1 := hide hW1
  have HSD : Hid (∀ k, S k → k < wi.heap.size) := fun k hk => (h.at_ k hk).2
  have HWL : Hid (w.heap.size ≤ wi.heap.size) := h.bel.size
  clear h hn hb1 hB1 hW1 hnS hlt
  go_enter Tryz.func54, Tryz.ntmps54
  go_wp2_with fail
  rw [HW1.out]
  refine HF.out.mono ?_
  rintro e w1 ⟨v, W, rfl, hw, hp, hs, ht, hA, hK⟩
  have HI := hide (idxF_any w1 _ v W hw ht)
  have HW := hide hw
  have HT := hide ht
  have HP := hide hp
  have HA := hide hA
  have HK := hide hK
  obtain ⟨va, vc, rfl⟩ := hw.shape
  have hcb : w1.heap[wi.heap.size]? = some (.cells #[.string ⟨#[]⟩, .slice none 0 0, .int .i64 0] 73 (0, 0)) := (hK.block HL.out HNS.out).trans HBb.out
  have HCB := hide hcb
  have HL1 : Hid (wi.heap.size < w1.heap.size) := (Array.getElem?_eq_some_iff.1 hcb).1
  clear hw ht hp hs hA hK hcb
  go_wp2_with fail
  refine HI.out.mono ?_
  rintro e w2 ⟨hcase, hb2⟩
  have HB2 := hide hb2
  have hC2 : w2.heap[wi.heap.size]? = some (.cells #[.string ⟨#[]⟩, .slice none 0 0, .int .i64 0] 73 (0, 0)) := (hb2.block _ HL1.out).trans HCB.out
  have t0 := cellOf hC2 0 (.string ⟨#[]⟩) rfl
  have t1 := cellOf hC2 1 (.slice none 0 0) rfl
  have t2 := cellOf hC2 2 (.int .i64 0) rfl
  have f0 := frozen_of hC2 0
  have f1 := frozen_of hC2 1
  have f2 := frozen_of hC2 2
  have HC2 := hide hC2
  clear hb2 hC2
  have HS : Hid (∀ (a b c : Value), AW S w (((w2.setCell ⟨wi.heap.size, 0, none⟩ a).setCell ⟨wi.heap.size, 1, none⟩ b).setCell ⟨wi.heap.size, 2, none⟩ c) d x F ∧ Kp S wi (((w2.setCell ⟨wi.heap.size, 0, none⟩ a).setCell ⟨wi.heap.size, 1, none⟩ b).setCell ⟨wi.heap.size, 2, none⟩ c)) := fun a b c =>
    ⟨(((HA.out.below HB2.out).setC HNS.out HWL.out a).setC HNS.out HWL.out b).setC HNS.out HWL.out c, (((((Kp.ofBelow HB1.out).trans HK.out).below HB2.out).fresh (Nat.le_refl _) a).fresh (Nat.le_refl _) b).fresh (Nat.le_refl _) c⟩
  have HDD : Hid (∀ (a b c : Value), (((w2.setCell ⟨wi.heap.size, 0, none⟩ a).setCell ⟨wi.heap.size, 1, none⟩ b).setCell ⟨wi.heap.size, 2, none⟩ c).heap[wi.heap.size]? = some (.cells #[a, b, c] 73 (0, 0))) := fun a b c => blk_set (blk_set (blk_set HC2.out 0 a) 1 b) 2 c
  rcases hcase with ⟨i, hi, hk, rfl⟩ | ⟨hno, rfl⟩
  · obtain ⟨g, off, cap, e, hc1, hc2, hg, r0, r1, r2⟩ := HW.out.elem i hi
    simp only [Value.slice.injEq] at e
    obtain ⟨rfl, _, rfl⟩ := e
    have hob := HT.out.own W[i] (List.getElem_mem hi)
    rw [fV_slice hob] at r1
    have q0 := (HB2.out.cell (p := ⟨g, off + i * 3, none⟩) hg).trans r0
    have q1 := (HB2.out.cell (p := ⟨g, off + i * 3 + 1, none⟩) hg).trans r1
    have q2 := (HB2.out.cell (p := ⟨g, off + i * 3 + 2, none⟩) hg).trans r2
    have HD : Hid (dat kG F = W[i].1.2) := dat_mem HNM.out (HP.out.mem_iff.1 (List.mem_map_of_mem (List.getElem_mem hi))) hk
    obtain ⟨o, ho⟩ : ∃ o, W[i] = o := ⟨_, rfl⟩
    rw [ho] at q0 q1 q2 hob HD
    obtain ⟨xa, xc, hx, _⟩ := hob.slice
    rw [hx] at q1 hob
    obtain ⟨s, hs⟩ : ∃ s, o.1.1 = s := ⟨_, rfl⟩
    obtain ⟨m, hm⟩ : ∃ m, o.1.2.1.length = m := ⟨_, rfl⟩
    obtain ⟨z, hz⟩ : ∃ z, o.1.2.2 = z := ⟨_, rfl⟩
    rw [hs] at q0
    rw [hm] at q1 hob
    rw [hz] at q2
    have HOB := hide hob
    have HZ := hide hz
    clear r0 r1 r2 hob hx hs hm hz ho hk
    have hki : (i : Int) < (W.length : Int) := by omega
    go_wp2
    have d0 := cellOf (HDD.out (.string s) (.slice xa m xc) (.int .i64 (z : Int))) 0 _ rfl
    have d1 := cellOf (HDD.out (.string s) (.slice xa m xc) (.int .i64 (z : Int))) 1 _ rfl
    have d2 := cellOf (HDD.out (.string s) (.slice xa m xc) (.int .i64 (z : Int))) 2 _ rfl
    refine bodyPost_ret (v := .agg #[.string s, .slice xa m xc, .int .i64 (z : Int)]) (by simp [results, Tryz.results54, go_sem, d0, d1, d2]) rfl ?_
    have hbl : wi.heap.size < W1.heap.size := HL.out
    rw [HD.out]
    exact ⟨s, _, by rw [HZ.out], (((HOB.out.below HB2.out).setC hbl _ |>.setC hbl _ |>.setC hbl _).mono (Nat.le_of_lt hbl)), HS.out _ _ _⟩
  · have HD : Hid (dat kG F = ([], 0)) := dat_none fun hm => by
      obtain ⟨f, hf, hfk⟩ := List.mem_map.1 hm
      obtain ⟨o, ho, hof⟩ := List.mem_map.1 (HP.out.mem_iff.2 hf)
      exact hno o ho (by rw [hof]; exact hfk)
    clear hno
    go_wp2
    have d0 := cellOf (HDD.out (.string ⟨#[]⟩) (.slice none 0 0) (.int .i64 0)) 0 _ rfl
    have d1 := cellOf (HDD.out (.string ⟨#[]⟩) (.slice none 0 0) (.int .i64 0)) 1 _ rfl
    have d2 := cellOf (HDD.out (.string ⟨#[]⟩) (.slice none 0 0) (.int .i64 0)) 2 _ rfl
    refine bodyPost_ret (v := .agg #[.string ⟨#[]⟩, .slice none 0 0, .int .i64 0]) (by simp [results, Tryz.results54, go_sem, d0, d1, d2]) rfl ?_
    rw [HD.out]
    exact ⟨_, _, rfl, Ob.nil _ _, HS.out _ _ _⟩
end Go.Proofs.YthpkajjgbjjbbaaGreatDoor


/- Stage 20: takeUp. -/
namespace Go.Proofs.YthpkajjgbjjbbaaGreatDoor
open Go.RowKit Go.Maps Go.MuLone
set_option linter.unusedVariables false
set_option linter.unusedSimpArgs false
/-- taking up a log of n bytes, z of them safe, no tail behind it -/
def jTk (x : Dx) (F : List Fi) (n z : Nat) : Int × Dx × List Fi := if (jCl x F).1 ≠ 0 then jCl x F else if z = n then (0, (jCl x F).2) else dSync (jCl x F).2.1 (jCl x F).2.2 kG
set_option maxHeartbeats 2000000 in
theorem takeUp_no (S : Nat → Prop) (w wi : World) (d j : Nat) (x : Dx) (F : List Fi) (sz : Int) (h : JS S w wi d j x F sz false) (nm : ByteArray) (a : Option Addr) (n c z : Nat) :
    Calls Tryz.prog 55 #[.pointer (some ⟨j, 0, none⟩), .agg #[.string nm, .slice a n c, .int .i64 (z : Int)]] wi fun e w' => e = .returned (amV (jTk x F n z).1) ∧ ∃ S', (∀ q, S' q → S q ∨ wi.heap.size ≤ q) ∧ JS S' w w' d j (jTk x F n z).2.1 (jTk x F n z).2.2 sz false ∧ Kp S wi w' := by
  obtain ⟨W1, hW1⟩ : ∃ W1, wi.alloc (.cells #[.string nm, .slice a n c, .int .i64 (z : Int)] 73) = W1 := ⟨_, rfl⟩
  have hb1 : Below wi.heap.size wi W1 := by rw [← hW1]; exact bel1 (Below.refl _ _) (Nat.le_refl _) _
  have hB1 : W1.heap[wi.heap.size]? = some (.cells #[.string nm, .slice a n c, .int .i64 (z : Int)] 73 (0, 0)) := by rw [← hW1]; exact heap_new _ _
  have hlt : wi.heap.size < W1.heap.size := (Array.getElem?_eq_some_iff.1 hB1).1
  have hnS : ¬ S wi.heap.size := fun hs => by have := (h.aw.at_ _ hs).2; omega
  have HC := hide (clearNew_any S w W1 d j x F sz false (h.below hb1))
  have HB1 := hide hb1
  have HBb := hide hB1
  have HL := hide hlt
  have HNS := hide hnS
  have HW1 := hide hW1
  clear h hb1 hB1 hW1 hnS hlt
  go_enter Tryz.func55, Tryz.ntmps55
  go_wp2_with fail
  rw [HW1.out]
  refine HC.out.mono ?_
  rintro e w1 ⟨rfl, S1, hS1, hJ1, hK1⟩
  obtain ⟨c0, _, c2, _⟩ := hJ1.cells
  have hcb := (hK1.block HL.out HNS.out).trans HBb.out
  have t0 := cellOf hcb 0 (.string nm) rfl
  have t1 := cellOf hcb 1 (.slice a n c) rfl
  have t2 := cellOf hcb 2 (.int .i64 (z : Int)) rfl
  replace hK1 : Kp S wi w1 := (Kp.ofBelow HB1.out).trans hK1
  replace hS1 : ∀ q, S1 q → S q ∨ wi.heap.size ≤ q := fun q hq => (hS1 q hq).imp id (fun h => Nat.le_trans HB1.out.size h)
  clear hcb
  have HJ1 := hide (And.intro hS1 (And.intro hJ1 hK1))
  by_cases h0 : (jCl x F).1 = 0
  · have HA : Hid (amV (jCl x F).1 = .nilIface) := by show _ = _; rw [h0]; rfl
    have HY := hide (aw_sync hJ1.aw kG)
    have H0 := hide h0
    rw [HA.out]
    clear hS1 hJ1 hK1 h0
    by_cases hz : z = n
    · have HQ : Hid (jTk x F n z = (0, (jCl x F).2)) := by show _ = _; unfold jTk; rw [if_neg (by rw [H0.out]; simp), if_pos hz]
      have hzb : ((z : Int) == (n : Int)) = true := by rw [hz]; simp
      clear hz
      go_wp2
      go_ret
      rw [HQ.out]
      exact ⟨rfl, S1, HJ1.out⟩
    · have HQ : Hid (jTk x F n z = dSync (jCl x F).2.1 (jCl x F).2.2 kG) := by show _ = _; unfold jTk; rw [if_neg (by rw [H0.out]; simp), if_neg hz]
      have hzb : ((z : Int) == (n : Int)) = false := beq_eq_false_iff_ne.2 (by omega)
      clear hz
      go_wp2_with fail
      refine HY.out.mono ?_
      rintro e w2 ⟨rfl, hN⟩
      have HJ2 := hide (HJ1.out.2.1.nx hN)
      have HM := hide (amiss_any (dSync (jCl x F).2.1 (jCl x F).2.2 kG).1 w2)
      clear hN
      obtain ⟨q, hq⟩ : ∃ q, (dSync (jCl x F).2.1 (jCl x F).2.2 kG).1 = q := ⟨_, rfl⟩
      have HQQ := hide hq
      rw [hq] at HM ⊢
      clear hq
      go_wp2_with fail
      refine HM.out.mono ?_
      rintro e w3 ⟨rfl, rfl⟩
      go_wp2
      go_ret
      rw [HQ.out, HQQ.out]
      refine ⟨rfl, ?_⟩
      obtain ⟨S2, hS2, hJ2, hK2⟩ := HJ2.out
      refine ⟨S2, fun q hq => ?_, hJ2, HJ1.out.2.2.transN hK2 (fun k hk => HJ1.out.1 k hk)⟩
      rcases hS2 q hq with h | h
      · exact HJ1.out.1 q h
      · exact .inr (Nat.le_trans HJ1.out.2.2.size h)
  · have HA : Hid (amV (jCl x F).1 = .iface 82 (.int .i64 (jCl x F).1)) := if_neg h0
    have HQ : Hid (jTk x F n z = jCl x F) := if_pos h0
    rw [HA.out]
    clear hS1 hJ1 hK1 h0
    go_wp2
    go_ret
    rw [HQ.out, HA.out]
    exact ⟨rfl, S1, HJ1.out⟩
end Go.Proofs.YthpkajjgbjjbbaaGreatDoor


/- Stage 20: Open, no tail behind the log. -/
namespace Go.Proofs.YthpkajjgbjjbbaaGreatDoor
open Go.RowKit Go.Maps Go.MuLone
set_option linter.unusedVariables false
set_option linter.unusedSimpArgs false
set_option maxHeartbeats 4000000 in
theorem open_good (S : Nat → Prop) (w wi : World) (d : Nat) (x : Dx) (F : List Fi) (g : Addr) (hE : Eb w g) (hT : Er w) (h : AW S w wi d x F) (hd : x.down = false) (hn : F.length ≤ 2000000000000) (hl : (dat kG F).1.length ≤ 70368744177664) (hz : (dat kG F).2 ≤ (dat kG F).1.length) (hw : (wl (dat kG F).1).2.2 = 0) (ht : (jTk x F (dat kG F).1.length (dat kG F).2).1 = 0) :
    Calls Tryz.prog 19 #[.pointer (some ⟨d, 0, none⟩)] wi fun e w' => ∃ j v Z, e = .returned (.tuple #[.pointer (some ⟨j, 0, none⟩), v, .int .i64 0]) ∧ wi.heap.size ≤ j ∧ Wy AK w' wi.heap.size v Z ∧ ToldL wi.heap.size w' Z ∧ batches Z = (wl (dat kG F).1).1 ∧ ∃ S', (∀ q, S' q → S q ∨ wi.heap.size ≤ q) ∧ JS S' w w' d j (jTk x F (dat kG F).1.length (dat kG F).2).2.1 (jTk x F (dat kG F).1.length (dat kG F).2).2.2 ((dat kG F).1.length : Int) false ∧ Kp S wi w' := by
  obtain ⟨l, hlq⟩ : ∃ l, (dat kG F).1 = l := ⟨_, rfl⟩
  obtain ⟨z, hzq⟩ : ∃ z, (dat kG F).2 = z := ⟨_, rfl⟩
  have hwe := ((wl_end l.length l (Nat.le_refl _)).2.1 (by rw [← hlq]; exact hw))
  rw [hlq] at hl hz hw ht ⊢
  rw [hzq] at hz ht ⊢
  have HLF := hide (fun S1 wi' (h : AW S1 w wi' d x F) => logFile_any S1 w wi' d x F h hn)
  have HU := hide (aw_up h)
  have HTT := hide ht
  have HWW := hide hw
  have HE := hide hE
  have HT := hide hT
  have HLQ := hide hlq
  have HZQ := hide hzq
  have hdt : (!x.down) = true := by rw [hd]; rfl
  rw [hdt] at HU
  have hsc : scn l (z : Int) = ((wl l).1, l.length, 0) := by
    unfold scn
    rw [if_neg (by omega), if_neg (by rw [hw]; omega), hwe]
  have HSC := hide hsc
  have HHL := hide hl
  have HHZ := hide hz
  clear h hd hn hl hz hw ht hE hT hlq hzq hwe hdt hsc
  go_enter Tryz.func19, Tryz.ntmps19
  go_wp2_with fail
  refine HU.out.mono ?_
  rintro e w1 ⟨rfl, S1, hS1, hA1, hK1⟩
  have hlf := HLF.out S1 w1 hA1
  rw [HLQ.out, HZQ.out] at hlf
  have HL2 := hide hlf
  have HK1 := hide (And.intro hS1 (And.intro hA1 hK1))
  clear hS1 hA1 hK1 hlf
  go_wp2_with fail
  refine HL2.out.mono ?_
  rintro e w2 ⟨nm, v, rfl, hob, hA2, hK2⟩
  obtain ⟨a, c, rfl, hcc⟩ := hob.slice
  have HOB := hide hob
  have HA2 := hide hA2
  have HK2 := hide hK2
  obtain ⟨W3, hW3⟩ : ∃ W3, w2.alloc (.cells #[.string nm, .slice a l.length c, .int .i64 (z : Int)] 73) = W3 := ⟨_, rfl⟩
  have hb3 : Below w2.heap.size w2 W3 := by rw [← hW3]; exact bel1 (Below.refl _ _) (Nat.le_refl _) _
  have hB3 : W3.heap[w2.heap.size]? = some (.cells #[.string nm, .slice a l.length c, .int .i64 (z : Int)] 73 (0, 0)) := by rw [← hW3]; exact heap_new _ _
  have hlt3 : w2.heap.size < W3.heap.size := (Array.getElem?_eq_some_iff.1 hB3).1
  have hA3 := hA2.below hb3
  have hrd : Rd W3 a l.length l := by
    obtain ⟨a', c', e, hr⟩ := (hob.below hb3).rb
    simp only [Value.slice.injEq] at e
    obtain ⟨rfl, _, rfl⟩ := e
    exact hr.2.2
  have HSN := hide (scan_any g a c l (z : Int) W3 (HE.out.below hA3.bel) (HT.out.below hA3.bel) hrd hcc HHL.out)
  have HB3 := hide hb3
  have HBb := hide hB3
  have HL3 := hide hlt3
  have HA3 := hide hA3
  have HW3 := hide hW3
  clear hob hA2 hK2 hW3 hb3 hB3 hlt3 hA3 hrd
  go_wp2_with fail
  rw [HW3.out]
  refine HSN.out.mono ?_
  rintro e w4 ⟨⟨v, Z, rfl, hwy, htl, hbz⟩, hb4⟩
  have hc4 := (hb4.block _ HL3.out).trans HBb.out
  have t0 := cellOf hc4 0 (.string nm) rfl
  have t1 := cellOf hc4 1 (.slice a l.length c) rfl
  have t2 := cellOf hc4 2 (.int .i64 (z : Int)) rfl
  have hL4 : w2.heap.size < w4.heap.size := (Array.getElem?_eq_some_iff.1 hc4).1
  rw [HSC.out] at hbz ⊢
  dsimp only at hbz ⊢
  have HY := hide (And.intro hwy (And.intro htl hbz))
  have HB4 := hide hb4
  clear hwy htl hbz hb4
  go_wp2_with fail
  obtain ⟨W5, hW5⟩ : ∃ W5, w4.alloc (.cells #[.pointer (some ⟨d, 0, none⟩), .int .i64 (l.length : Int), .bool false] 114) = W5 := ⟨_, rfl⟩
  have hb5 : Below w4.heap.size w4 W5 := by rw [← hW5]; exact bel1 (Below.refl _ _) (Nat.le_refl _) _
  have hB5 : W5.heap[w4.heap.size]? = some (.cells (jrA d (l.length : Int) false) 114 (0, 0)) := by rw [← hW5]; exact heap_new _ _
  have hA4 := HA3.out.below HB4.out
  have hJ5 : JS S1 w W5 d w4.heap.size x F (l.length : Int) false := ⟨hA4.below hb5, fun hs => by have := (hA4.at_ _ hs).2; omega, hA4.bel.size, hB5⟩
  have HTK := hide (takeUp_no S1 w W5 d w4.heap.size x F (l.length : Int) hJ5 nm a l.length c z)
  have HB5 := hide hb5
  have HW5 := hide hW5
  have hlt5 : w4.heap.size < W5.heap.size := (Array.getElem?_eq_some_iff.1 hB5).1
  have HL5 := hide hlt5
  have HA0 : Hid (amV 0 = .nilIface) := rfl
  clear hW5 hb5 hB5 hA4 hJ5 hlt5
  rw [HW5.out]
  refine HTK.out.mono ?_
  rintro e w6 ⟨rfl, S6, hS6, hJ6, hK6⟩
  rw [HTT.out, HA0.out]
  have hk35 : Below w2.heap.size w2 W5 := belOn (belOn HB3.out HB3.out.size HB4.out) (Nat.le_trans HB3.out.size HB4.out.size) HB5.out
  have HKA : Hid (Kp S wi w6) := (HK1.out.2.2.transN (((HK2.out.below hk35).trans hK6)) (fun k hk => HK1.out.1 k hk))
  have HSA : Hid (∀ q, S6 q → S q ∨ wi.heap.size ≤ q) := fun q hq => by
    rcases hS6 q hq with h | h
    · exact HK1.out.1 q h
    · have := HK1.out.2.2.size
      have := HK2.out.size
      have := hk35.size
      exact .inr (by omega)
  have HJ6 := hide hJ6
  have hble : wi.heap.size ≤ W3.heap.size := by
    have := HK1.out.2.2.size
    have := HK2.out.size
    have := HB3.out.size
    omega
  have hkk : ∀ k, W3.heap.size ≤ k → k < w4.heap.size → w6.heap[k]? = w4.heap[k]? := fun k h1 h2 =>
    (hK6.block (Nat.lt_of_lt_of_le h2 HB5.out.size) (fun hs => by have := (HA3.out.at_ _ hs).2; omega)).trans (HB5.out.block k h2)
  have HYY : Hid (Wy AK w6 wi.heap.size v Z ∧ ToldL wi.heap.size w6 Z) :=
    ⟨(HY.out.1.at (fun k e => hkk k (HY.out.1.lt e).1 (HY.out.1.lt e).2)).mono hble, (HY.out.2.1.keep (fun k cs t f h1 h2 _ => hkk k h1 (Array.getElem?_eq_some_iff.1 h2).1)).mono hble⟩
  clear hble hkk
  clear hS6 hJ6 hK6 hk35
  go_wp2
  refine bodyPost_ret (results_tmp3 rfl _ _ _) rfl ?_
  refine ⟨w4.heap.size, v, Z, rfl, ?_, HYY.out.1, HYY.out.2, HY.out.2.2, S6, HSA.out, HJ6.out, HKA.out⟩
  have := HK1.out.2.2.size
  have := HK2.out.size
  have := HB3.out.size
  have := HB4.out.size
  omega
end Go.Proofs.YthpkajjgbjjbbaaGreatDoor
