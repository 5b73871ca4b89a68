import Derived.Test.YtknkmamjdmadcaaGUnsM9
import Derived.Test.YtknkmamjdmadcaaGPeerM9
import Derived.Test.YtknkmamjdmadcaaLUnsWM9
import Derived.Maps.RangeWalk
import Derived.StringKeys
import Derived.OwnWalk

/- Stage 14: Unsettled, with any states. -/
namespace Go.Proofs.Ytknkmamjdmadcaa.G
open Go.RowKit Go.Maps
set_option linter.unusedVariables false
set_option linter.unusedSimpArgs false

set_option maxRecDepth 100000 in
set_option maxHeartbeats 2000000 in
theorem unsettled_any (d g : Nat) (l : Lk) (T : List (ByteArray × Dv)) (w : World) (h : Lnk w g l T) (hS : Sts d g l w T) (hT : T.length ≤ 1000000000) :
    Calls Try.prog 10 #[.pointer (some ⟨g, 0, none⟩)] w fun e w' => ∃ v, e = .returned v ∧ UnsP w w' T v := by
  obtain ⟨s0, s1, s2, s3, s4, s5, s6, s7, s8, s9, s10, s11⟩ := h.lb.facts
  have hl := h.lb.lt
  obtain ⟨n, hn⟩ : ∃ n, n = T.length := ⟨_, rfl⟩
  have HN := hide hn
  have hnb : (n : Int) ≤ 1000000000 := by omega
  obtain ⟨cur, hmk, hcs⟩ := run_makeU n (by omega) w
  have HTb := hide h.tb
  have HSt : Hid (∀ x (a q : Sw), (x, (a, q)) ∈ T → StIn (fun b => b < w.heap.size) w d a) := fun x a q hm => StIn.keep (fun _ _ => rfl) (fun b hb => hb.1) (hS _ hm).1
  have HT1 : Hid (∀ o, TbD (w.alloc o) l.dm T) := fun o => h.tb.at (Below.heap_alloc w o _ h.tb.lt)
  have hdl : l.dm < w.heap.size := h.tb.lt
  have HTl := hide hT
  have HCs := hide hcs
  clear h hS hn hT s0 s1 s2 s3 s4 s5 s6 s7 s8 s9 s10 hcs
  go_enter Try.func10, Try.ntmps10
  go_wp2_with (first | (at_len; refine len_D rfl _ rfl l.dm rfl T HTb.out ?_; rw [← HN.out]) | (at_range; refine range_D rfl _ rfl l.dm rfl T (HT1.out _) ?_; intro w1 D hR hrg hg1 hs1))
  have hsa : (w.alloc (.cells cur 70)).heap.size = w.heap.size + 1 := by simp
  rw [hsa] at hrg hs1
  have HR := hide hR
  have HG0 := hide hrg
  have HB1 : Hid (Below w.heap.size w w1) := (bel1 (Below.refl _ _) (Nat.le_refl _) _).grown hg1 (by simp) (fun k hk => by cases hk)
  have HW1 : Hid (Wy unK w1 w.heap.size (.slice (some ⟨w.heap.size, 0, none⟩) 0 n) []) := by
    refine .inr ⟨w.heap.size, 0, n, cur, rfl, Nat.le_refl _, Nat.zero_le _, by have := HTl.out; have := HN.out; unfold maxLen; omega, (hg1.block _ (by simp) (by simp)).trans (heap_alloc_last w _), by have := HCs.out; show 0 + n * 20 ≤ _; omega, fun j u hu => by simp at hu⟩
  have hw1 : w.heap.size + 1 < w1.heap.size := by omega
  clear hR hrg hg1 hs1 hmk s11 HT1 HTb
  go_frame
  rw [hsa]
  clear hsa
  go_loopw [3] (fun v wr => ∃ left cnt W, wr.ranges Try.prog 9 rH l.dm (w.heap.size + 1) T.length D left cnt ∧ Wy unK wr w.heap.size v W ∧ (∃ a m c, v = .slice (some a) m c) ∧ Hid ((W.map (·.1)).Perm (unB T left)) ∧ Hid (∀ k, v.ownBlock = some k → k ≠ w.heap.size + 1) ∧ Below w.heap.size w wr ∧ w.heap.size + 1 < wr.heap.size) (fun _ wr => wr.rangeLeft l.dm (w.heap.size + 1))
  case atStart => exact ⟨_, _, [], HG0.out, HW1.out, ⟨_, _, _, rfl⟩, by rw [unB_start HR.out]; exact .refl _, fun k e => by cases e; exact Nat.ne_of_lt (Nat.lt_succ_self _), HB1.out, hw1⟩
  case round =>
    clear HG0 HB1 HW1 hw1
    obtain ⟨left, cnt, W, hrg, hwy, ⟨va, vm, vc, rfl⟩, hp, hno, hb, hlt⟩ := hrel
    have HRg := hide hrg
    have HWy := hide hwy
    have HB := hide hb
    clear hrg hwy hb
    go_wp2_with (at_next; go_loud (refine next_D rfl _ rfl l.dm (w.heap.size + 1) T.length D T left cnt rfl HR.out HRg.out ?_ ?_))
    · intro hl0
      rcases HWy.out with ⟨e', _⟩ | ⟨gb, off, cap, cu, e', h1, h2, h3, h4, h5, h6⟩
      · cases e'
      · cases e'
        have HS := hide (sortu_any W gb off vc cu wr h4 h6 (by have := hp.out.length_eq; rw [List.length_map] at this; have := unB_len T left; have := HTl.out; omega))
        have hpe : (W.map (·.1)).Perm (T.map unOf) := by rw [← unB_done hl0]; exact hp.out
        have HPe := hide hpe
        have Hh1 := hide h1
        clear hpe hp h1 h2 h3 h4 h5 h6
        go_wp2_with fail
        refine HS.out.mono ?_
        rintro e2 w2 ⟨rfl, ks, hkp, hso, hrd, hbut⟩
        have HKp := hide hkp
        have HSo := hide hso
        have HRd := hide hrd
        have HBu := hide hbut
        clear hkp hso hrd hbut HS
        go_wp2
        go_ret
        refine ⟨_, rfl, some ⟨gb, off, none⟩, vc, ks.map (·.1), ?_, ?_, fun i j hi hj hij => ?_, fun j hj => ?_, HBu.out.below HB.out Hh1.out HB.out.size⟩
        · show Value.slice (some ⟨gb, off, none⟩) W.length vc = _
          rw [List.length_map, HKp.out.length_eq]
        · exact (HKp.out.map (fun x : Un => x.1)).trans HPe.out
        · have := HSo.out i j (by simpa using hi) (by simpa using hj) hij
          simpa [Un.cf] using this
        · have hj' : j < ks.length := by simpa using hj
          exact ⟨gb, off, rfl, (HRd.out j hj').1, by rw [(HRd.out j hj').2]; simp⟩
    · intro x a q w1 cnt1 hm hlx hrg1 hlt1 hg1 hs1 hen
      have HS1 := hide hs1
      have HIn := hide (HSt.out x a q hm)
      have hst := hide (unB_step HR.out hm hlx)
      have hw1 : w.heap.size + 1 < w1.heap.size := by omega
      obtain ⟨V, hV⟩ : ∃ V, w1.alloc (.cells (dvA (a, q)) 89) = V := ⟨_, rfl⟩
      have hbV : Below w1.heap.size w1 V := hV ▸ bel1 (Below.refl _ _) (Nat.le_refl _) _
      have b1 : V.heap[w1.heap.size]? = some (.cells (dvA (a, q)) 89 (0, 0)) := hV ▸ heap_alloc_last w1 _
      have HB1' : Hid (Below w.heap.size w w1) := HB.out.grown hg1 (by omega) (fun k hk => by cases hk; omega)
      have HWy1 : Hid (Wy unK w1 w.heap.size (.slice (some va) vm vc) W) := HWy.out.at fun k hk => hg1.block k (HWy.out.lt hk).2 (fun e => by cases e; exact hno.out _ hk rfl)
      have HR1 : Hid (w1.ranges Try.prog 9 rH l.dm (w.heap.size + 1) T.length D (fun z => left z && !z.sameKey (.string x.data.toList)) cnt1) := hrg1
      have HO := hide (state_any d a w.heap.size V (by have := hbV.size; have := HB1'.out.size; omega) (StIn.keep (fun b hb => (hbV.block b (Nat.lt_of_lt_of_le hb HB1'.out.size)).trans (HB1'.out.block b hb)) (fun _ h => h) HIn.out))
      have HV := hide hV
      have HbV := hide hbV
      have Hb1 := hide b1
      have hdv : dvV (a, q) = .agg (dvA (a, q)) := rfl
      rw [hdv] at hen ⊢
      clear hm hrg1 hg1 hs1 hV hbV b1 hlx hdv
      go_wp2_with (refine wpList_store_row rfl 89 (.tmp 5) (.tmp 21) rfl w1.heap.size (dvA (a, q)) rfl rfl 89 _ (heap_alloc_last w1 _) (Dv.sz _) rfl (by kernel_rfl) ?_; rw [World.setRow_alloc_new, HV.out]; refine Shut.out ?_)
      unfold Shut
      clear hen
      go_wp2_with (first | (refine wpList_load_mid rfl 53 (.tmp 24) rfl w1.heap.size 0 rfl a.L _ (range_own Hb1.out) Try.underlying53 rfl Try.infoSt ?_) | (go_at_call 29; refine HO.out.mono ?_; rintro e2 w2 ⟨y, rfl, hyk, hyi, hb2⟩; refine Shut.out ?_))
      unfold Shut
      have HB2 : Hid (Below w1.heap.size w1 w2) := HbV.out.trans (hb2.mono HbV.out.size)
      have HWy2 : Hid (Wy unK (w2.alloc (.cells ⟨Un.enc (x, y)⟩ 70)) w.heap.size (.slice (some va) vm vc) W) := HWy1.out.at fun k hk => (Below.heap_alloc w2 _ _ (Nat.lt_of_lt_of_le (HWy1.out.lt hk).2 HB2.out.size)).trans (HB2.out.block k (HWy1.out.lt hk).2)
      have HWl : Hid (W.length ≤ 1000000000) := by show _ ≤ _; have := hp.out.length_eq; rw [List.length_map] at this; have := unB_len T left; have := HTl.out; omega
      have hw2 : w.heap.size + 1 < w2.heap.size := Nat.lt_of_lt_of_le hw1 HB2.out.size
      clear hb2 HV HbV Hb1
      clear HO HIn hyk hyi
      go_wp2_with (first | (refine wpList_buildTo rfl 70 _ rfl (some 27) rfl ⟨Un.enc (x, y)⟩ (by kernel_rfl) ?_) | (refine wpList_build_one unOk rfl (.tmp 27) rfl (x, y) rfl ?_) | (at_builtin; refine wpList_append_way unOk _ rfl (.tmp 22) (.tmp 28) rfl w.heap.size (.slice (some va) vm vc) W (x, y) rfl HWy2.out w2.heap.size 1 rfl (heap_alloc_last w2 _) (by simp; omega) HWl.out ?_; intro v' w3 ho hg hat; refine Shut.out ?_))
      obtain ⟨a3, c3, e3⟩ := ho.shape
      have h3b : ∃ a m c, v' = .slice (some a) m c := by
        rcases ho with ⟨_, e⟩ | ⟨gb, off, cap, cu, rfl, _⟩
        · simp at e
        · exact ⟨_, _, _, rfl⟩
      obtain ⟨va', vm', vc', rfl⟩ := h3b
      have HHo := hide ho
      have hs2 : (w2.alloc (.cells ⟨Un.enc (x, y)⟩ 70)).heap.size = w2.heap.size + 1 := by simp
      have HG3 : Hid (w2.heap.size < w3.heap.size) := by show _ < _; have h9 := hg.size; change (w2.alloc (.cells ⟨Un.enc (x, y)⟩ 70)).heap.size ≤ _ at h9; omega
      have hbA : Below w1.heap.size w1 (w2.alloc (.cells ⟨Un.enc (x, y)⟩ 70)) := bel1 HB2.out HB2.out.size _
      have HB3 : Hid (Below w.heap.size w w3) := (bel1 (HB1'.out.trans (HB2.out.mono HB1'.out.size)) (by omega) _).grown hg (by show _ ≤ (w2.alloc (.cells ⟨Un.enc (x, y)⟩ 70)).heap.size; omega) (fun k hk => (HWy1.out.lt hk).1)
      have HR3 : Hid (w3.ranges Try.prog 9 rH l.dm (w.heap.size + 1) T.length D (fun z => left z && !z.sameKey (.string x.data.toList)) cnt1) := (HR1.out.kept (row := none) ⟨hbA.os, hbA.tape, hbA.output, hbA.size, fun k hk _ => hbA.block k hk⟩ (by simp) (by simp)).kept hg (fun e => by have := (HWy1.out.lt e.symm).1; omega) (fun e => hno.out _ e.symm rfl)
      have HNo : Hid (∀ k, (Value.slice (some va') vm' vc').ownBlock = some k → k ≠ w.heap.size + 1) := fun k e => by
        rcases hat k e with e | e
        · exact hno.out k e
        · change (w2.alloc (.cells ⟨Un.enc (x, y)⟩ 70)).heap.size ≤ k at e
          omega
      clear ho hg hat e3 hs2 hbA
      unfold Shut
      go_wp2
      go_roundw
      case rel => exact ⟨_, cnt1, W ++ [(x, y)], HR3.out, HHo.out, ⟨_, _, _, rfl⟩, by rw [List.map_append]; exact (hp.out.append_right _).trans hst.out.symm, HNo.out, HB3.out, by have := HG3.out; omega⟩
      case measure => rw [HR3.out.left_eq, HRg.out.left_eq]; exact hlt1
end Go.Proofs.Ytknkmamjdmadcaa.G
