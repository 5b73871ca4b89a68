
/- Stage 18: Bindings. -/
import Derived.Test.YtmanfakdbmlfeaaDoorRSrtN
import Derived.Test.YtmanfakdbmlfeaaDoorRMat
import Derived.Sort.MapsRangeIn
namespace Go.Proofs.YtmanfakdbmlfeaaDoor
open Go.RowKit Go.Maps
set_option linter.unusedVariables false
set_option linter.unusedSimpArgs false
/-- sorted as Bindings sorts -/
def SrtB (W : List Bd) : Prop := ∀ i j (hi : i < W.length) (hj : j < W.length), i < j → 0 ≤ bCf W[j] W[i]
theorem sortB_way (ks : List Bd) (base : Nat) (v : Value) (w : World) (hw : Wy BK w base v ks) (hb : base ≤ w.heap.size) (hsz : ks.length ≤ 4096) :
    Calls Tryd.prog 37 #[v, .func (.func 38) #[] #[]] w fun e w' => e = .returned (.tuple #[]) ∧ ∃ ks' : List Bd, ks'.Perm ks ∧ SrtB ks' ∧ Wy BK w' base v ks' ∧ Below base w w' := by
  have hw0 := hw
  rcases hw with ⟨rfl, rfl⟩ | ⟨g, off, cap, cur, rfl, h1, h2⟩
  · refine (sort_one none 0 0 _ w (by omega)).mono ?_
    rintro e w' ⟨rfl, rfl⟩
    exact ⟨rfl, [], .refl _, fun i j hi => by simp at hi, .inl ⟨rfl, rfl⟩, Below.refl _ _⟩
  · refine (sortB_any ks base g off cap w hw0 hsz).mono ?_
    rintro e w' ⟨rfl, ks', hp, hs, hw', hk⟩
    exact ⟨rfl, ks', hp, hs, hw', hk.toBelow hb (fun k hk e => by have := (hw0.lt (k := g) rfl).1; omega)⟩
set_option maxHeartbeats 4000000 in
theorem Bindings_any (w : World) (r m : Nat) (L : List Bd) (hR : RtM w r m L) (hn : L.length ≤ 4096) :
    Calls Tryd.prog 17 #[.pointer (some ⟨r, 0, none⟩)] w fun e w' => ∃ v W, e = .returned v ∧ Wy BK w' w.heap.size v W ∧ W.Perm L ∧ SrtB W ∧ Below w.heap.size w w' := by
  have n1 := nil_yes
  have n2 := nil_no
  have h0 := hR.2.1
  have hnd := hR.2.2.1
  have hlt1 : r < w.heap.size := hR.lt
  have hm1 : m < w.heap.size := hR.2.lt
  have hcr := hR.cell
  go_enter Tryd.func17, Tryd.ntmps17
  go_wp2_with (at_range; refine range_B rfl _ rfl m rfl L hR.2 ?_; intro w2 D hRp hrg hg2 hs2)
  have HR := hide hRp
  have HG0 := hide hrg
  have HB2 : Hid (Below w.heap.size w w2) := (Below.refl _ _).grown hg2 (Nat.le_refl _) (fun k hk => by cases hk)
  clear hRp hrg hg2
  go_frame
  go_loopw [3] (fun v wr => ∃ left cnt W, wr.ranges Tryd.prog 36 rH m w.heap.size L.length D left cnt ∧ Wy BK wr (w.heap.size + 1) v W ∧ Hid (W.Perm (come L left)) ∧ Below w.heap.size w wr ∧ w.heap.size + 1 ≤ wr.heap.size) (fun _ wr => wr.rangeLeft m w.heap.size)
  case atStart => exact ⟨_, _, [], HG0.out, .inl ⟨rfl, rfl⟩, by rw [come_start h0 HR.out]; exact .refl _, HB2.out, by omega⟩
  case round =>
    obtain ⟨left, cnt, W, hrg, hwy, HP, hb, hlt⟩ := hrel
    obtain ⟨va, vc, rfl⟩ := hwy.shape
    have HRg := hide hrg
    have HWy := hide hwy
    have HB := hide hb
    have HLn : Hid (W.length ≤ 4096) := by show W.length ≤ 4096; rw [HP.out.length_eq]; have := come_len L left; omega
    clear hrg hwy hb
    go_wp2_with (at_next; go_loud (refine next_B rfl _ rfl m w.heap.size L.length D L left cnt rfl h0 HR.out HRg.out ?_ ?_))
    · intro hl0
      have HQ : Hid (W.Perm L) := by
        have := HP.out
        rw [come_done (fun k => hl0 k.1 k.2)] at this
        exact this
      go_wp2_with fail
      refine (sortB_way W (w.heap.size + 1) _ wr HWy.out hlt HLn.out).mono ?_
      rintro e3 w3 ⟨rfl, W3, hp3, hs3, hw3, hk3⟩
      have HW3 := hide hw3
      have HS3 := hide hs3
      have HP3 : Hid (W3.Perm L) := hp3.trans HQ.out
      have HB4 : Hid (Below w.heap.size w w3) := HB.out.trans (hk3.mono (Nat.le_succ _))
      clear hw3 hk3 hs3 hp3
      go_wp2
      go_ret
      exact ⟨_, W3, rfl, HW3.out.base (Nat.le_succ _), HP3.out, HS3.out, HB4.out⟩
    · intro p q wn cntn hm hlx hrgn hltn hgn hsn hen
      have hst := hide (come_step hnd h0 hm hlx)
      have HBn : Hid (Below w.heap.size w wn) := HB.out.grown hgn (by omega) (fun k hk => by cases hk; exact Nat.le_refl _)
      have HWn : Hid (Wy BK wn (w.heap.size + 1) (.slice va W.length vc) W) := HWy.out.at fun k hk => hgn.block k (HWy.out.lt hk).2 (fun e => by cases e; have := (HWy.out.lt hk).1; omega)
      have HRn := hide hrgn
      clear hm hlx hrgn hgn
      unfold bdV at hen ⊢
      have HQ : Hid ((W ++ [(p, q)]).Perm (come L (fun z => left z && !z.sameKey (.string (kb (p, q)).data.toList)))) := (HP.out.append_right _).trans hst.out.symm
      obtain ⟨V, hV⟩ : ∃ V, V = wn.alloc (.cells #[.string p, .string q] 36) := ⟨_, rfl⟩
      have hVs : V.heap.size = wr.heap.size + 1 := by rw [hV]; simp; exact hsn
      have HVb : Hid (Below wn.heap.size wn V) := by rw [hV]; exact bel1 (Below.refl _ _) (Nat.le_refl _) _
      have HB16 : Hid (Below w.heap.size w V) := HBn.out.trans (HVb.out.mono HBn.out.size)
      have HR6 : Hid (V.ranges Tryd.prog 36 rH m w.heap.size L.length D (fun z => left z && !z.sameKey (.string (kb (p, q)).data.toList)) cntn) := HRn.out.kept (row := none) ⟨HVb.out.os, HVb.out.tape, HVb.out.output, HVb.out.size, fun k hk _ => HVb.out.block k hk⟩ (by simp) (by simp)
      have HW6 : Hid (Wy BK V (w.heap.size + 1) (.slice va W.length vc) W) := HWn.out.at fun k hk => HVb.out.block k (HWn.out.lt hk).2
      have HWA : Hid (Wy BK (V.alloc (.cells #[.string p, .string q] 36)) (w.heap.size + 1) (.slice va W.length vc) W) := HW6.out.at fun k e => Below.heap_alloc _ _ _ (HW6.out.lt e).2
      have HBA : Hid (w.heap.size + 1 ≤ (V.alloc (.cells #[.string p, .string q] 36)).heap.size) := by show _ ≤ (V.alloc _).heap.size; simp; omega
      subst hV
      go_wp2_with (first | (refine wpList_build_one bkOk rfl (.tmp 15) rfl (p, q) rfl ?_) | (at_builtin; go_loud (refine wpList_append_way bkOk _ rfl (.tmp 14) (.tmp 16) rfl (w.heap.size + 1) (.slice va W.length vc) W (p, q) rfl HWA.out _ 1 rfl (heap_new _ _) HBA.out (by have := HLn.out; omega) ?_); intro v' w7 hw7 hg7 hs7; have HW7 := hide hw7; have HG7 := hide hg7; clear hw7 hg7 hs7))
      have HR7 : Hid (w7.ranges Tryd.prog 36 rH m w.heap.size L.length D (fun z => left z && !z.sameKey (.string (kb (p, q)).data.toList)) cntn) := (HR6.out.alloc _).kept HG7.out (fun e => by have := (HW6.out.lt e.symm).1; omega) (fun e => by have := (HW6.out.lt e.symm).1; omega)
      have HB7 : Hid (Below w.heap.size w w7) := (bel1 HB16.out (by omega) _).grown HG7.out (Nat.le_trans (Nat.le_succ _) HBA.out) (fun k hk => by have := (HW6.out.lt hk).1; omega)
      have hz7 : w.heap.size + 1 ≤ w7.heap.size := Nat.le_trans HBA.out HG7.out.size
      go_wp2
      go_roundw
      case rel => exact ⟨_, cntn, W ++ [(p, q)], HR7.out, HW7.out, HQ.out, HB7.out, hz7⟩
      case measure => rw [HR7.out.left_eq, HRg.out.left_eq]; exact hltn
end Go.Proofs.YtmanfakdbmlfeaaDoor
