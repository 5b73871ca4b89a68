
/- Stage 18: Match. -/
import Derived.Test.YtmanfakdbmlfeaaDoorRMatM
import Derived.Test.YtmanfakdbmlfeaaDoorRRtr
import Derived.Test.YtmanfakdbmlfeaaDoorRSrt
import Derived.Sort.MapsRangeIn
namespace Go.Proofs.YtmanfakdbmlfeaaDoor
open Go.RowKit Go.Maps
set_option linter.unusedVariables false
set_option linter.unusedSimpArgs false
/-- bindings that may be -/
def goodB (b : Bd) : Prop := patB (pcs b.1) = true ∧ b.1.size ≤ 281474976710656 ∧ b.2.size ≤ 281474976710656
theorem Wy.base {A : Type} {K : WK A} {w : World} {b b' : Nat} {v : Value} {W : List A} (h : Wy K w b v W) (hb : b' ≤ b) : Wy K w b' v W := by
  rcases h with h | ⟨g, off, cap, cur, rfl, h1, h2⟩
  · exact .inl h
  · exact .inr ⟨g, off, cap, cur, rfl, Nat.le_trans hb h1, h2⟩
theorem cmpct_le (W : List ByteArray) : (cmpct W).length ≤ W.length := by
  unfold cmpct Lib.compact Lib.compactUpTo
  rw [List.length_map, List.length_map]
  refine Nat.le_trans (List.length_filter_le _ _) ?_
  simp
set_option maxHeartbeats 4000000 in
theorem match_yes (w : World) (r m : Nat) (L : List Bd) (t : ByteArray) (hR : RtM w r m L) (hL : ∀ b, b ∈ L → goodB b) (hn : L.length ≤ 256) (ht : t.size ≤ 281474976710656) (hT : topB (pcs t) = true) :
    Calls Tryd.prog 19 #[.pointer (some ⟨r, 0, none⟩), .string t] w fun e w' => ∃ v W, e = .returned (.tuple #[v, .int .i64 0]) ∧ Wy SK w' w.heap.size v (cmpct (srt W)) ∧ W.Perm (qof t L) ∧ Below w.heap.size w w' := by
  have n1 := nil_yes
  have n2 := nil_no
  have h0 := hR.2.1
  have hnd := hR.2.2.1
  go_enter Tryd.func19, Tryd.ntmps19
  go_wp2_with fail
  refine (topicOf_any t ht w).mono ?_
  rintro e w1 ⟨hb1, ⟨hk, rfl⟩ | ⟨hk, g, c, rfl, hg, hc, h9, hx⟩⟩
  · rw [hT] at hk
    cases hk
  have hR1 := hR.keep hb1
  have HB1 := hide hb1
  have HX := hide hx
  have hlt1 : r < w1.heap.size := hR1.lt
  have hm1 : m < w1.heap.size := hR1.2.lt
  have hgl : g < w1.heap.size := hx.1
  have hcr := hR1.cell
  clear hk hb1 hx
  go_wp2_with (at_range; refine range_B rfl _ rfl m rfl L hR1.2 ?_; intro w2 D hRp hrg hg2 hs2)
  have HR := hide hRp
  have HG0 := hide hrg
  have HB2 : Hid (Below w1.heap.size w1 w2) := (Below.refl _ _).grown hg2 (Nat.le_refl _) (fun k hk => by cases hk)
  clear hRp hrg hg2
  go_frame
  go_loopw [7] (fun v wr => ∃ left cnt W, wr.ranges Tryd.prog 36 rH m w1.heap.size L.length D left cnt ∧ Wy SK wr (w1.heap.size + 1) v W ∧ Hid (W.Perm (qof t (come L left))) ∧ Below w1.heap.size w1 wr ∧ w1.heap.size + 1 ≤ wr.heap.size) (fun _ wr => wr.rangeLeft m w1.heap.size)
  case atStart => exact ⟨_, _, [], HG0.out, .inl ⟨rfl, rfl⟩, by rw [come_start h0 HR.out]; exact .refl _, HB2.out, by omega⟩
  case round =>
    obtain ⟨left, cnt, W, hrg, hwy, HP, hb, hlt⟩ := hrel
    obtain ⟨va, vc, rfl⟩ := hwy.shape
    have HRg := hide hrg
    have HWy := hide hwy
    have HB := hide hb
    have HLn : Hid (W.length ≤ 256) := by show W.length ≤ 256; rw [HP.out.length_eq]; have := qof_len t (come L left); have := come_len L left; omega
    clear hrg hwy hb
    go_wp2_with (at_next; go_loud (refine next_B rfl _ rfl m w1.heap.size L.length D L left cnt rfl h0 HR.out HRg.out ?_ ?_))
    · intro hl0
      have HQ : Hid (W.Perm (qof t L)) := by
        have := HP.out
        rw [come_done (fun k => hl0 k.1 k.2)] at this
        exact this
      go_wp2_with fail
      refine (sortS_any wr (w1.heap.size + 1) _ W HWy.out (by have := HLn.out; omega)).mono ?_
      rintro e3 w3 ⟨rfl, hw3, hk3⟩
      have HW3 := hide hw3
      have HK3 := hide hk3
      clear hw3 hk3
      go_wp2_with fail
      refine (compS_any w3 (w1.heap.size + 1) _ (srt W) HW3.out (by rw [srt_len]; have := HLn.out; omega) (cmpct_le _)).mono ?_
      rintro e4 w4 ⟨v', rfl, hw4, hk4⟩
      have HW4 := hide hw4
      have HB4 : Hid (Below w.heap.size w w4) := by
        have k1 := HK3.out.trans hk4
        have b1 : Below (w1.heap.size + 1) wr w4 := k1.toBelow hlt (fun k hk e => by have := (HWy.out.lt e).1; omega)
        exact belOn HB1.out HB1.out.size (HB.out.trans (b1.mono (Nat.le_succ _)))
      clear hw4 hk4
      go_wp2
      go_ret2
      exact ⟨_, W, rfl, HW4.out.base (Nat.le_trans HB1.out.size (Nat.le_succ _)), HQ.out, HB4.out⟩
    · intro p q wn cntn hm hlx hrgn hltn hgn hsn hen
      have hst := hide (come_step hnd h0 hm hlx)
      have hgood := hL (p, q) hm
      have HBn : Hid (Below w1.heap.size w1 wn) := HB.out.grown hgn (by omega) (fun k hk => by cases hk; exact Nat.le_refl _)
      have HWn : Hid (Wy SK wn (w1.heap.size + 1) (.slice va W.length vc) W) := HWy.out.at fun k hk => hgn.block k (HWy.out.lt hk).2 (fun e => by cases e; have := (HWy.out.lt hk).1; omega)
      have HRn := hide hrgn
      clear hm hlx hrgn hgn
      unfold bdV at hen ⊢
      go_wp2_with fail
      obtain ⟨V, hV⟩ : ∃ V, V = wn.alloc (.cells #[.string p, .string q] 36) := ⟨_, rfl⟩
      have hVs : V.heap.size = wr.heap.size + 1 := by rw [hV]; simp; exact hsn
      have hVb : Below wn.heap.size wn V := by rw [hV]; exact bel1 (Below.refl _ _) (Nat.le_refl _) _
      have hVc : V.heap[wr.heap.size]? = some (.cells #[.string p, .string q] 36 (0, 0)) := by rw [hV, ← hsn]; exact heap_new _ _
      rw [← hV]
      have HVb := hide hVb
      clear hV hVb hen
      refine (patternOf_any p hgood.2.1 V).mono ?_
      rintro e5 w5 ⟨hb5, ⟨hk5, rfl⟩ | ⟨hk5, g5, c5, rfl, hg5, hc5, h95, hx5⟩⟩
      · rw [hgood.1] at hk5
        cases hk5
      have HBw5 : Hid (Below wn.heap.size wn w5) := HVb.out.trans (hb5.mono HVb.out.size)
      have HB15 : Hid (Below w1.heap.size w1 w5) := HBn.out.trans (HBw5.out.mono HBn.out.size)
      have HC5 : Hid (w5.heap[wr.heap.size]? = some (.cells #[.string p, .string q] 36 (0, 0))) := (hb5.block _ (by omega)).trans hVc
      have HF5 := hide (fits_ok (pcs p) (pcs t) w5 _ _ (tl_of hc5 h95 hx5) (tl_of hc h9 (HX.out.keep HB15.out hgl)))
      have hz5 : wr.heap.size + 1 ≤ w5.heap.size := by have := hb5.size; omega
      clear hk5 hx5 hb5 hVc
      go_wp2_with fail
      refine HF5.out.mono ?_
      rintro e6 w6 ⟨rfl, hb6⟩
      have HBw6 : Hid (Below wn.heap.size wn w6) := HBw5.out.trans (hb6.mono HBw5.out.size)
      have HB16 : Hid (Below w1.heap.size w1 w6) := HB15.out.trans (hb6.mono HB15.out.size)
      have hC6 : w6.heap[wr.heap.size]? = some (.cells #[.string p, .string q] 36 (0, 0)) := (hb6.block _ (by omega)).trans HC5.out
      have hcq : w6.cell? ⟨wr.heap.size, 1, none⟩ = some (.string q) := cellOf hC6 1 _ rfl
      have hz6 : wr.heap.size + 1 ≤ w6.heap.size := by have := hb6.size; omega
      have HR6 : Hid (w6.ranges Tryd.prog 36 rH m w1.heap.size L.length D (fun z => left z && !z.sameKey (.string (kb (p, q)).data.toList)) cntn) := HRn.out.kept (row := none) ⟨HBw6.out.os, HBw6.out.tape, HBw6.out.output, HBw6.out.size, fun k hk _ => HBw6.out.block k hk⟩ (by simp) (by simp)
      have HW6 : Hid (Wy SK w6 (w1.heap.size + 1) (.slice va W.length vc) W) := HWn.out.at fun k hk => HBw6.out.block k (HWn.out.lt hk).2
      clear hb6 HF5 hC6 HC5 HRn
      cases hf : fitP (pcs p) (pcs t)
      · have HQ : Hid (W.Perm (qof t (come L (fun z => left z && !z.sameKey (.string (kb (p, q)).data.toList))))) := by
          have := qof_perm (t := t) hst.out
          rw [qof_step_no hf] at this
          exact HP.out.trans this.symm
        clear hf
        go_wp2
        go_roundw
        case rel => exact ⟨_, cntn, W, HR6.out, HW6.out, HQ.out, HB16.out, by omega⟩
        case measure => rw [HR6.out.left_eq, HRg.out.left_eq]; exact hltn
      · have HQ : Hid ((W ++ [q]).Perm (qof t (come L (fun z => left z && !z.sameKey (.string (kb (p, q)).data.toList))))) := by
          have := qof_perm (t := t) hst.out
          rw [qof_step_yes hf] at this
          exact (HP.out.append_right _).trans this.symm
        clear hf
        have HWA : Hid (Wy SK (w6.alloc (.cells #[.string q] 9)) (w1.heap.size + 1) (.slice va W.length vc) W) := HW6.out.at fun k e => Below.heap_alloc _ _ _ (HW6.out.lt e).2
        have HBA : Hid (w1.heap.size + 1 ≤ (w6.alloc (.cells #[.string q] 9)).heap.size) := by show _ ≤ (w6.alloc _).heap.size; simp; omega
        go_wp2_with (at_builtin; refine wpList_append_way skOk _ rfl (.tmp 27) (.tmp 30) rfl (w1.heap.size + 1) (.slice va W.length vc) W q rfl HWA.out w6.heap.size 1 rfl (heap_new _ _) HBA.out (by have := HLn.out; omega) ?_; intro v' w7 hw7 hg7 hs7; have HW7 := hide hw7; have HG7 := hide hg7; clear hw7 hg7 hs7)
        have HR7 : Hid (w7.ranges Tryd.prog 36 rH m w1.heap.size L.length D (fun z => left z && !z.sameKey (.string (kb (p, q)).data.toList)) cntn) := (HR6.out.alloc _).kept HG7.out (fun e => by have := (HW6.out.lt e.symm).1; omega) (fun e => by have := (HW6.out.lt e.symm).1; omega)
        have HB7 : Hid (Below w1.heap.size w1 w7) := (bel1 HB16.out (by omega) _).grown HG7.out (by have := HBA.out; omega) (fun k hk => by have := (HW6.out.lt hk).1; omega)
        have hz7 : w1.heap.size + 1 ≤ w7.heap.size := Nat.le_trans HBA.out HG7.out.size
        go_wp2
        go_roundw
        case rel => exact ⟨_, cntn, W ++ [q], HR7.out, HW7.out, HQ.out, HB7.out, hz7⟩
        case measure => rw [HR7.out.left_eq, HRg.out.left_eq]; exact hltn
end Go.Proofs.YtmanfakdbmlfeaaDoor
