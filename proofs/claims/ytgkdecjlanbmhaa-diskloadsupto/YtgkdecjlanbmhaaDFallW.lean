
/- Stage 19: a disk falls: the walk. -/
import Derived.Test.YtgkdecjlanbmhaaDFall
namespace Go.Proofs.Ytgkdecjlanbmhaa
open Go.RowKit Go.Maps
set_option linter.unusedVariables false
set_option linter.unusedSimpArgs false
theorem le_usd {f : Fi} : ∀ {F : List Fi}, f ∈ F → f.2.1.length ≤ usd F
  | g :: F, h => by
    rw [usd_cons]
    rcases List.mem_cons.1 h with rfl | h
    · omega
    · have := le_usd h
      omega
set_option maxHeartbeats 4000000 in
theorem dfall_any (S : Nat → Prop) (w : World) (d m : Nat) (x : Dx) (E0 : List En) (keep : Int) (hD : DkS S w d m x E0) (hS : ∀ k, S k → k < w.heap.size) (hk : -9223372036854775808 ≤ keep ∧ keep < 9223372036854775808)
    (hF : ∀ e ∈ E0, e.f.2.2 ≤ e.f.2.1.length) (hu : usd (E0.map En.f) ≤ 16777216) :
    Calls Try.prog 63 #[.pointer (some ⟨d, 0, none⟩), .int .i64 keep] w fun e w' => e = .returned (.tuple #[]) ∧
      Dsk (Sx S w w') w' d { x with down := true, left := -1, used := (usd ((E0.map En.f).map (fl keep)) : Int) } ((E0.map En.f).map (fl keep)) ∧ Kp S w w' := by
  have HD := hide hD
  have c2 : w.cell? ⟨d, 2, none⟩ = some (.map (some m)) := hD.cell 2 _ rfl
  have c4 : w.cell? ⟨d, 4, none⟩ = some (.int .i64 x.used) := hD.cell 4 _ rfl
  have c5 : w.cell? ⟨d, 5, none⟩ = some (.bool x.down) := hD.cell 5 _ rfl
  have c6 : w.cell? ⟨d, 6, none⟩ = some (.int .i64 x.left) := hD.cell 6 _ rfl
  have f4 : w.frozen? ⟨d, 4, none⟩ = false := hD.frozen 4
  have f5 : w.frozen? ⟨d, 5, none⟩ = false := hD.frozen 5
  have f6 : w.frozen? ⟨d, 6, none⟩ = false := hD.frozen 6
  have HS := hide hS
  have HF := hide hF
  have HU := hide hu
  have HD3 : Hid (DkS S (((w.setCell ⟨d, 5, none⟩ (.bool true)).setCell ⟨d, 6, none⟩ (.int .i64 (-1))).setCell ⟨d, 4, none⟩ (.int .i64 0)) d m { x with down := true, left := -1, used := 0 } E0) :=
    ((hD.setx 5 (.bool true) { x with down := true } rfl).setx 6 (.int .i64 (-1)) { x with down := true, left := -1 } rfl).setx 4 (.int .i64 0) { x with down := true, left := -1, used := 0 } rfl
  have HK3 : Hid (Kp S w (((w.setCell ⟨d, 5, none⟩ (.bool true)).setCell ⟨d, 6, none⟩ (.int .i64 (-1))).setCell ⟨d, 4, none⟩ (.int .i64 0))) := (((Kp.refl S w).setCell hD.sd _).setCell hD.sd _).setCell hD.sd _
  clear hD hS hF hu
  go_enter Try.func63, Try.ntmps63
  go_wp2_with (at_range; refine range_T rfl _ rfl m rfl (E0.map fun e => (e.f.1, e.p)) HD3.out.tab ?_; intro w2 D hRp hrg hg2 hs2)
  have es : (((w.setCell ⟨d, 5, none⟩ (.bool true)).setCell ⟨d, 6, none⟩ (.int .i64 (-1))).setCell ⟨d, 4, none⟩ (.int .i64 0)).heap.size = w.heap.size := by simp
  rw [es] at hrg hs2
  rw [es]
  obtain ⟨L, hL⟩ : ∃ L, L = E0.map fun e => (e.f.1, e.p) := ⟨_, rfl⟩
  rw [← hL] at hRp hrg
  obtain ⟨B, hB⟩ : ∃ B, B = E0.map gp := ⟨_, rfl⟩
  have hBn : (B.map (·.1.1)).Nodup := by rw [hB, List.map_map]; exact HD.out.names
  have hBu : usd (B.map (·.1)) ≤ 16777216 := by
    rw [hB, List.map_map]
    exact HU.out
  have hBs : ∀ b ∈ B, b.1.2.2 ≤ b.1.2.1.length ∧ b.1.2.1.length ≤ 16777216 := fun b hb => by
    rw [hB] at hb
    obtain ⟨e, he, rfl⟩ := List.mem_map.1 hb
    refine ⟨HF.out e he, Nat.le_trans ?_ HU.out⟩
    exact le_usd (List.mem_map_of_mem he)
  have HBn := hide hBn
  have HBu := hide hBu
  have HBs := hide hBs
  have HL : Hid (L = B.map fun b => (b.1.1, b.2)) := by show _ = _; rw [hL, hB, List.map_map]; rfl
  have HFin : Hid ((B.map fun b => fl keep b.1) = (E0.map En.f).map (fl keep)) := by show _ = _; rw [hB, List.map_map, List.map_map]; rfl
  have HRp := hide hRp
  have HRg := hide hrg
  have HK2 : Hid (Kp S w w2) := HK3.out.grown hg2 (fun j hj => by cases hj)
  have HG2 : Hid (Flg S d m { x with down := true, left := -1 } keep B w2 (Maps.has D) w2) := by
    have hall : ∀ b ∈ B, Maps.has D (.string b.1.1.data.toList) = true := fun b hb => by
      rw [hRp.has, any_iff, HL.out, List.map_map]
      exact List.mem_map.2 ⟨b, hb, rfl⟩
    refine ⟨E0, ?_, by rw [updB_all hall, hB]⟩
    rw [usB_all hall]
    refine (HD3.out.keep (w' := w2) (fun k hk => hg2.block k (by rw [es]; exact HS.out k hk) (by simp))).mono fun k hk => .inl hk
  have hw2s : w2.heap.size = w.heap.size + 1 := hs2
  clear hL hB hBn hBu hBs hRp hrg hg2 hs2
  go_frame
  go_loopw [] (fun wr => ∃ left cnt, wr.ranges Try.prog 9 rH m w.heap.size L.length D left cnt ∧ Hid (Flg S d m { x with down := true, left := -1 } keep B w2 left wr) ∧ Kp S w wr ∧ w2.heap.size ≤ wr.heap.size) (fun wr => wr.rangeLeft m w.heap.size)
  case atStart => exact ⟨_, _, HRg.out, HG2, HK2.out, Nat.le_refl _⟩
  case round =>
    obtain ⟨left, cnt, hrg, HG, hkr, hle⟩ := hrel
    have HRr := hide hrg
    have HKr := hide hkr
    clear hrg hkr
    go_wp2_with (at_next; go_loud (refine next_T rfl _ rfl m w.heap.size _ D _ left cnt rfl HRp.out HRr.out ?_ ?_))
    · intro hl0
      have HQ : Hid (Dsk (Sx S w wr) wr d { x with down := true, left := -1, used := (usd ((E0.map En.f).map (fl keep)) : Int) } ((E0.map En.f).map (fl keep))) := by
        obtain ⟨E, h1, h2⟩ := HG.out
        rw [usB_none hl0, HFin.out] at h1
        rw [updB_none hl0] at h2
        refine Dsk.perm (F := E.map En.f) ⟨m, E, rfl, h1.mono (fun k hk => hk.imp id (fun h => ⟨by omega, h.2⟩))⟩ ?_
        have h3 := h2.map (·.1)
        rw [List.map_map, List.map_map] at h3
        rw [← HFin.out]
        exact h3
      go_wp2
      go_end0
      exact ⟨rfl, HQ.out, HKr.out⟩
    · intro y p wn cntn hm hlx hrgn hltn hgn hsn hen
      rw [HL.out] at hm
      obtain ⟨b, hb, e⟩ := List.mem_map.1 hm
      simp only [Prod.mk.injEq] at e
      obtain ⟨rfl, rfl⟩ := e
      obtain ⟨l1, l2, hBl⟩ := List.append_of_mem hb
      have hp : B.Perm (b :: (l1 ++ l2)) := by rw [hBl]; exact List.perm_middle
      have HGn : Hid (Flg S d m { x with down := true, left := -1 } keep (b :: (l1 ++ l2)) w2 left wn) := (HG.out.kept hgn hsn (by omega) HS.out hle).perm hp
      have hnd : ((b :: (l1 ++ l2)).map (·.1.1)).Nodup := (hp.map _).nodup_iff.1 HBn.out
      obtain ⟨v, hFB, hOb, hpd, hc4, hf4, hdl, hml, hpm, hdm, hSp, hnext⟩ := HGn.out.next hnd hlx (by omega)
      obtain ⟨hs1, hs2⟩ := HBs.out b hb
      have hub : usB keep left (b :: (l1 ++ l2)) ≤ 16777216 := by
        rw [← usB_perm hp]
        exact Nat.le_trans (usB_le keep left B) HBu.out
      have hub5 : (fl keep b.1).2.1.length ≤ 16777216 := by simp [fl]; omega
      have hbp : Hid (S b.2 ∨ w2.heap.size ≤ b.2) := hSp.imp id (·.1)
      have HKn : Hid (Kp S w wn) := HKr.out.grown hgn (fun j hj => by cases hj; exact .inr (Nat.le_refl _))
      have HFF := hide (ffall_any b.2 v b.1.2.1 b.1.2.2 keep wn hk hFB hOb hs1 hs2)
      have HRn := hide hrgn
      have HNx := hide hnext
      have HPr := hide hp
      obtain ⟨n, hn⟩ : ∃ n, n = (fl keep b.1).2.1.length := ⟨_, rfl⟩
      rw [← hn] at hub5
      have hst : stay b.1.2.1.length b.1.2.2 keep = n := by rw [hn]; simp [fl]; have := stay_le hs1 keep; omega
      have HN := hide hn
      have HST := hide hst
      obtain ⟨U, hU⟩ : ∃ U, U = usB keep left (b :: (l1 ++ l2)) := ⟨_, rfl⟩
      rw [← hU] at hub
      have HU := hide hU
      have hbn : ∀ W : World, Hid (w.heap.size ≤ b.2 → w2.heap.size ≤ b.2) := fun _ h => by rcases hbp.out with h1 | h1; (have := HS.out _ h1; omega); exact h1
      clear hm hgn hrgn hnext hFB hOb hc4 hf4 hlx hp hnd hSp hBl hb hn hst hU hbn
      go_wp2_with fail
      refine HFF.out.mono ?_
      rintro e5 w5 ⟨rfl, v', hFB5, hOb5, hWhe, hK5⟩
      rw [HST.out] at hFB5 hOb5
      have hlen : (b.1.2.1.take n).length = n := by rw [List.length_take]; have := HST.out; have := stay_le hs1 keep; omega
      obtain ⟨a', c', rfl, hc'⟩ := hOb5.slice
      rw [hlen] at hOb5 hFB5 hWhe hc'
      obtain ⟨hc45, hf45, hG5⟩ := HNx.out w5 _ n HN.out (by rw [← HST.out] at hFB5 ⊢; exact hFB5) (by rw [← HST.out] at hOb5 ⊢; exact hOb5) hWhe hK5
      rw [← HU.out] at hc45 hG5
      have c50 := hFB5.c0
      have HG5 := hide hG5
      have hps : Hid (w5.heap.size ≥ wn.heap.size) := hK5.size
      have HK5 : Hid (Kp S w w5) := HKn.out.transN hK5 (fun k e => by subst e; exact hbp.out.imp id (fun h => by omega))
      have HR5 : Hid (w5.ranges Try.prog 9 rH m w.heap.size L.length D (fun z => left z && !z.sameKey (.string b.1.1.data.toList)) cntn) := HRn.out.kept hK5.gr (fun e => hpm (by simpa using e.symm)) (fun e => by
        have e1 : w.heap.size = b.2 := by simpa using e
        rcases hbp.out with h | h
        · have := HS.out _ h; omega
        · omega)
      have k6 : Kp (fun k => k = d) w5 (w5.setCell ⟨d, 4, none⟩ (.int .i64 ((U : Int) + (n : Int)))).drew := (kp_self (Kp.refl _ w5) 4 _).below (drew_below _)
      have HR6 : Hid ((w5.setCell ⟨d, 4, none⟩ (.int .i64 ((U : Int) + (n : Int)))).drew.ranges Try.prog 9 rH m w.heap.size L.length D (fun z => left z && !z.sameKey (.string b.1.1.data.toList)) cntn) := HR5.out.kept k6.gr (fun e => hdm (by simpa using e.symm)) (fun e => by exact absurd (HS.out _ HD.out.sd) (by have e1 : w.heap.size = d := (by simpa using e); omega))
      have HG6 : Hid (Flg S d m { x with down := true, left := -1 } keep B w2 (fun z => left z && !z.sameKey (.string b.1.1.data.toList)) (w5.setCell ⟨d, 4, none⟩ (.int .i64 ((U : Int) + (n : Int)))).drew) := by
        obtain ⟨E, h1, h2⟩ := HG5.out.perm HPr.out.symm
        exact ⟨E, h1.keep (fun k _ => rfl), h2⟩
      have HK6 : Hid (Kp S w (w5.setCell ⟨d, 4, none⟩ (.int .i64 ((U : Int) + (n : Int)))).drew) := (HK5.out.setCell HD.out.sd _).below (drew_below _)
      have HZ6 : Hid (w2.heap.size ≤ (w5.setCell ⟨d, 4, none⟩ (.int .i64 ((U : Int) + (n : Int)))).drew.heap.size) := by
        have := hps.out
        have := k6.size
        show w2.heap.size ≤ _
        omega
      clear hG5 hFB5 hOb5 hWhe hK5 hlen k6
      go_wp2_with fail
      unfold pV
      go_region
      go_roundw
      case rel => exact ⟨_, _, _, _, _, _, _, _, _, _, _, _, _, _, _, _, _, _, _, _, ⟨_, _, HR6.out, HG6, HK6.out, HZ6.out⟩, rfl⟩
      case measure => rw [HR6.out.left_eq, HRr.out.left_eq]; exact hltn
end Go.Proofs.Ytgkdecjlanbmhaa
